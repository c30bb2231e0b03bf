/- For every slice of bytes, every two digests and every two numbers the law MerkleSums returns true and the arguments read as they did (P6.1): which sums any text of up to 500 bytes and any two sums have, how sums are cut, and where a list is cut. The package's table is as the program's text lays it (the card ties it). -/
import Derived.Test.YtaphbenkkicbhaaDoorDoor
import Derived.Test.YtaphbenkkicbhaaDoorRefRoot
import Derived.Test.YtaphbenkkicbhaaDoorDgsIn
import Derived.Test.YtaphbenkkicbhaaDoorCut
import Derived.Test.YtaphbenkkicbhaaDoorSame
import Derived.Test.YtaphbenkkicbhaaDoorEql
import Derived.WalkKit
import Derived.ShutString
import Derived.ChangeOld
import Derived.Below
namespace Go.Proofs.YtaphbenkkicbhaaDoor.merkleSums
open Go.ChangeShapes Go.WideShapes Go.ChangeAt Go.RowKit
open Go.ChangeMaps (open_string shut_string)
set_option linter.unusedVariables false

theorem laidOut : laidOutB Tryd.prog = true := by kernel_rfl

/-- what stays while the law goes on -/
structure MSm (N : Nat) (y z : List Int) (a1 a2 : Option Addr) (m c1 c2 : Nat) (b : List Int) (w wr : World) : Prop where
  low : Below N w wr
  size : N + 2 ≤ wr.heap.size
  fst : wr.heap[N]? = some (.cells (bv y).toArray 24 (0, 0))
  snd : wr.heap[N + 1]? = some (.cells (bv z).toArray 24 (0, 0))
  came : Bts wr a1 m c1 b
  mine : Bts wr a2 m c2 b
  tab : Tab wr
theorem MSm.drewN {N : Nat} {y z : List Int} {a1 a2 : Option Addr} {m c1 c2 : Nat} {b : List Int} {w wr : World} (h : MSm N y z a1 a2 m c1 c2 b w wr) (n : Nat) : MSm N y z a1 a2 m c1 c2 b w (wr.drewN n) := ⟨below_drewN h.low n, h.size, h.fst, h.snd, h.came.drewN n, h.mine.drewN n, h.tab.drewN n⟩
theorem MSm.step {N : Nat} {y z : List Int} {a1 a2 : Option Addr} {m c1 c2 : Nat} {b : List Int} {w wr w1 : World} (h : MSm N y z a1 a2 m c1 c2 b w wr) (hb : Below wr.heap.size wr w1) : MSm N y z a1 a2 m c1 c2 b w w1 := by
  have hs := h.size
  exact ⟨h.low.trans (hb.mono (by omega)), Nat.le_trans h.size hb.size, by rw [hb.block _ (by omega)]; exact h.fst, by rw [hb.block _ (by omega)]; exact h.snd, h.came.below hb, h.mine.below hb, h.tab.below hb⟩

set_option maxRecDepth 100000 in
set_option maxHeartbeats 1000000 in
theorem walk (a0 : Option Addr) (len0 cap0 : Nat) (l : List Int) (y : List Int) (z : List Int) (x3 : Int) (x4 : Int) (w : World) (hl : Bts w a0 len0 cap0 l) (hy : Dg y) (hz : Dg z) (hx3 : -9223372036854775808 ≤ x3 ∧ x3 ≤ 9223372036854775807) (hx4 : -9223372036854775808 ≤ x4 ∧ x4 ≤ 9223372036854775807) (htab : Tab w) :
    Calls Tryd.prog 3 #[.slice a0 len0 cap0, .agg (bv y).toArray, .agg (bv z).toArray, .int .i64 x3, .int .i64 x4] w fun e w' => e = .returned (.bool true) ∧ Below w.heap.size w w' := by
  have hb0 : Below w.heap.size w ((w.alloc (.cells (bv y).toArray 24)).alloc (.cells (bv z).toArray 24)) := ((Below.refl _ _).alloc (Nat.le_refl _) _).alloc (by simp) _
  have hf0 : ((w.alloc (.cells (bv y).toArray 24)).alloc (.cells (bv z).toArray 24)).heap[w.heap.size]? = some (.cells (bv y).toArray 24 (0, 0)) := by rw [heap_alloc_old _ _ (by simp), heap_alloc_new]
  have hg0 : ((w.alloc (.cells (bv y).toArray 24)).alloc (.cells (bv z).toArray 24)).heap[w.heap.size + 1]? = some (.cells (bv z).toArray 24 (0, 0)) := by rw [show w.heap.size + 1 = (w.alloc (.cells (bv y).toArray 24)).heap.size from by simp, heap_alloc_new]
  have hs0 : ((w.alloc (.cells (bv y).toArray 24)).alloc (.cells (bv z).toArray 24)).heap.size = w.heap.size + 2 := by simp
  go_enter Tryd.func3, Tryd.ntmps3
  go_wp2_with fail
  generalize (w.alloc (.cells (bv y).toArray 24)).alloc (.cells (bv z).toArray 24) = w0 at hb0 hf0 hg0 hs0 ⊢
  have h0 := hl.below hb0
  have hT0 := htab.below hb0
  refine (cut_any a0 len0 cap0 500 l _ h0 (by decide)).mono ?_
  rintro e wz ⟨⟨m, rfl, h1⟩, hwz⟩
  obtain rfl : w0 = wz := hwz
  have hm : m ≤ 500 := by have := h1.len_eq; rw [List.length_take] at this; omega
  generalize l.take 500 = b at h1
  clear h0 hl
  go_wp2_with fail
  refine (copy_any a0 m cap0 b _ h1 (by omega)).mono ?_
  rintro e w2 ⟨v, rfl, hown, hb2⟩
  obtain ⟨a2, c2, rfl, h2⟩ := Bts.of_owns hown h1.byt
  have hk0 : MSm w.heap.size y z a0 a2 m cap0 c2 b w w2 := ⟨hb0.trans (hb2.mono (by omega)), by have := hb2.size; omega, by rw [hb2.block _ (by omega)]; exact hf0, by rw [hb2.block _ (by omega)]; exact hg0, h1.below hb2, h2, hT0.below hb2⟩
  clear hown hb2 h1 h2 hT0 hf0 hg0 hs0 hb0
  have HLF : Bx (∀ W, MSm w.heap.size y z a0 a2 m cap0 c2 b w W → Calls Tryd.prog 11 #[.slice a2 m c2, .int .i64 x3] W fun e w' => e = .returned (.agg (bv (leafL b x3)).toArray) ∧ Below W.heap.size W w') := ⟨fun W h => leaf_any a2 m c2 b x3 W h.mine h.tab (by omega)⟩
  have HRL : Bx (∀ W, MSm w.heap.size y z a0 a2 m cap0 c2 b w W → Calls Tryd.prog 12 #[.slice a0 m cap0, .int .i64 x3] W fun e w' => e = .returned (.agg (bv (leafL b x3)).toArray) ∧ Below W.heap.size W w') := ⟨fun W h => refleaf_any a0 m cap0 b x3 W h.came (by omega)⟩
  have HND : Bx (∀ W, MSm w.heap.size y z a0 a2 m cap0 c2 b w W → Calls Tryd.prog 14 #[.agg (bv y).toArray, .agg (bv z).toArray, .int .i64 x3] W fun e w' => e = .returned (.agg (bv (nodeL y z x3)).toArray) ∧ Below W.heap.size W w') := ⟨fun W h => node_any y z x3 W hy hz h.tab⟩
  have HRN : Bx (∀ W, Calls Tryd.prog 15 #[.agg (bv y).toArray, .agg (bv z).toArray, .int .i64 x3] W fun e w' => e = .returned (.agg (bv (nodeL y z x3)).toArray) ∧ Below W.heap.size W w') := ⟨fun W => refnode_any y z x3 W hy hz⟩
  have HCT : Bx (∀ W, Calls Tryd.prog 16 #[.agg (bv y).toArray, .int .i64 x3] W fun e w' => e = .returned (.agg (bv (cutL y x3)).toArray) ∧ Below W.heap.size W w') := ⟨fun W => mcut_any y x3 W hy⟩
  have HRC : Bx (∀ W, Calls Tryd.prog 17 #[.agg (bv y).toArray, .int .i64 x3] W fun e w' => e = .returned (.agg (bv (cutL y x3)).toArray) ∧ Below W.heap.size W w') := ⟨fun W => refmcut_any y x3 W hy⟩
  have HSP : Bx (∀ W, Calls Tryd.prog 18 #[.int .i64 x4] W fun e w' => e = .returned (.int .i64 (splitN x4.toNat : Int)) ∧ W = w') := ⟨fun W => split_any x4 W hx4.2⟩
  have HRS : Bx (∀ W, Calls Tryd.prog 19 #[.int .i64 x4] W fun e w' => e = .returned (.int .i64 (splitN x4.toNat : Int)) ∧ W = w') := ⟨fun W => refsplit_any x4 W hx4.2⟩
  have hq1 := dig_eq (leafL b x3) (leafL_dg b x3).1
  have hq2 := dig_eq (nodeL y z x3) (nodeL_dg y z x3).1
  have hq3 := dig_eq (cutL y x3) (cutL_dg hy.2 x3).1
  have hdy : (Tryd.prog.info? 24).map (·.size) = some (bv y).length := by rw [bv_length, hy.1]; exact dig_info
  have hdz : (Tryd.prog.info? 24).map (·.size) = some (bv z).length := by rw [bv_length, hz.1]; exact dig_info
  generalize leafL b x3 = LF at HLF HRL hq1
  generalize nodeL y z x3 = NO at HND HRN hq2
  generalize cutL y x3 = CT at HCT HRC hq3
  generalize splitN x4.toNat = sp at HSP HRS
  obtain ⟨N, hN⟩ : ∃ N, N = w.heap.size := ⟨_, rfl⟩
  rw [← hN] at hk0 HLF HRL HND ⊢
  have HN : Hid (N = w.heap.size) := hN
  obtain ⟨a1, ha1⟩ : ∃ a1, a1 = a0 := ⟨_, rfl⟩
  obtain ⟨c1, hc1⟩ : ∃ c1, c1 = cap0 := ⟨_, rfl⟩
  rw [← ha1, ← hc1] at hk0 HLF HRL HND
  subst ha1 hc1
  clear hN
  go_wp2_with fail
  have hk := hk0.drewN 1
  clear hk0 hy hz
  refine wp_region_held_drew (S := fun W => MSm N y z a1 a2 m c1 c2 b w W) (by kernel_rfl) hk (fun _ => ?_)
  refine wpAnyH_take (i := 0) (oi := { dst := some 16, op := Op.move (Operand.tmp 11), type := 22, pos := "law.go:21", after := #[], guard := none }) (v := ?v0) rfl (by kernel_rfl) (by kernel_rfl) (by kernel_rfl) (fun _ _ _ h => h) (Or.inl ⟨by rfl, ?y0⟩) hk ?r0
  case y0 => (intro w hSw; (try dsimp only at hSw); go_simp; first | done | with_reducible rfl)
  simp only [Act.put, List.setIfInBounds_toArray, List.set_cons_zero, List.set_cons_succ]
  refine wpAnyH_take (i := 1) (oi := { dst := some 17, op := Op.move (Operand.tmp 3), type := 3, pos := "law.go:21", after := #[], guard := none }) (v := ?v1) rfl (by kernel_rfl) (by kernel_rfl) (by kernel_rfl) (fun _ _ _ h => h) (Or.inl ⟨by rfl, ?y1⟩) hk ?r1
  case y1 => (intro w hSw; (try dsimp only at hSw); go_simp; first | done | with_reducible rfl)
  simp only [Act.put, List.setIfInBounds_toArray, List.set_cons_zero, List.set_cons_succ]
  refine wpAnyH_take (i := 3) (oi := { dst := some 19, op := Op.move (Operand.tmp 0), type := 22, pos := "law.go:21", after := #[], guard := none }) (v := ?v3) rfl (by kernel_rfl) (by kernel_rfl) (by kernel_rfl) (fun _ _ _ h => h) (Or.inl ⟨by rfl, ?y3⟩) hk ?r3
  case y3 => (intro w hSw; (try dsimp only at hSw); go_simp; first | done | with_reducible rfl)
  simp only [Act.put, List.setIfInBounds_toArray, List.set_cons_zero, List.set_cons_succ]
  refine wpAnyH_take (i := 4) (oi := { dst := some 20, op := Op.move (Operand.tmp 3), type := 3, pos := "law.go:21", after := #[], guard := none }) (v := ?v4) rfl (by kernel_rfl) (by kernel_rfl) (by kernel_rfl) (fun _ _ _ h => h) (Or.inl ⟨by rfl, ?y4⟩) hk ?r4
  case y4 => (intro w hSw; (try dsimp only at hSw); go_simp; first | done | with_reducible rfl)
  simp only [Act.put, List.setIfInBounds_toArray, List.set_cons_zero, List.set_cons_succ]
  refine wpAnyH_ready (rs := [2]) (by decide +kernel) (by simp) ?_
  refine AllReadyH.cons (o := { dst := some 18, op := Op.call { callee := Callee.value (Operand.func 11), args := #[Operand.tmp 16, Operand.tmp 17], argTypes := #[22, 3] }, type := 24, pos := "law.go:21", after := #[{ on := 0, ground := Ground.data }, { on := 1, ground := Ground.data }], guard := none }) rfl (fun K hK => ?_) AllReadyH.nil
  go_simp
  refine (HLF.out _ hk).mono ?_
  rintro e1 w2 ⟨rfl, hb1⟩
  replace hk := hk.step hb1
  clear hb1
  refine hK.out _ _ hk (fun _ => ?_)
  clear hK K
  try simp only [Act.put, List.setIfInBounds_toArray, List.set_cons_zero, List.set_cons_succ]
  refine wpAnyH_ready (rs := [5]) (by decide +kernel) (by simp) ?_
  refine AllReadyH.cons (o := { dst := some 21, op := Op.call { callee := Callee.value (Operand.func 12), args := #[Operand.tmp 19, Operand.tmp 20], argTypes := #[22, 3] }, type := 24, pos := "law.go:21", after := #[{ on := 3, ground := Ground.data }, { on := 4, ground := Ground.data }, { on := 2, ground := Ground.chain }], guard := none }) rfl (fun K hK => ?_) AllReadyH.nil
  go_simp
  refine (HRL.out _ hk).mono ?_
  rintro e1 w5 ⟨rfl, hb1⟩
  replace hk := hk.step hb1
  clear hb1
  refine hK.out _ _ hk (fun _ => ?_)
  clear hK K
  try simp only [Act.put, List.setIfInBounds_toArray, List.set_cons_zero, List.set_cons_succ]
  refine wpAnyH_take (i := 6) (oi := { dst := some 22, op := Op.binOp BinOp.eql 24 (Operand.tmp 18) (Operand.tmp 21) 24, type := 4, pos := "law.go:21", after := #[{ on := 2, ground := Ground.data }, { on := 5, ground := Ground.data }], guard := none }) (v := ?v6) rfl (by kernel_rfl) (by kernel_rfl) (by kernel_rfl) (fun _ _ _ h => h) (Or.inl ⟨by rfl, ?y6⟩) hk ?r6
  case y6 => (intro w hSw; (try dsimp only at hSw); go_simp; first | done | with_reducible rfl)
  simp only [Act.put, List.setIfInBounds_toArray, List.set_cons_zero, List.set_cons_succ]
  refine wpAnyH_take (i := 7) (oi := { dst := some 23, op := Op.move (Operand.tmp 22), type := 4, pos := "law.go:21", after := #[{ on := 6, ground := Ground.data }, { on := 5, ground := Ground.chain }], guard := none }) (v := ?v7) rfl (by kernel_rfl) (by kernel_rfl) (by kernel_rfl) (fun _ _ _ h => h) (Or.inl ⟨by rfl, ?y7⟩) hk ?r7
  case y7 => (intro w hSw; (try dsimp only at hSw); go_simp; first | done | with_reducible rfl)
  simp only [Act.put, List.setIfInBounds_toArray, List.set_cons_zero, List.set_cons_succ]
  refine wpAnyH_take (i := 8) (oi := { dst := some 24, op := Op.move (Operand.tmp 11), type := 22, pos := "law.go:21", after := #[{ on := 7, ground := Ground.guard }], guard := some (7, true) }) (v := ?v8) rfl (by kernel_rfl) (by kernel_rfl) (by kernel_rfl) (fun _ _ _ h => h) (Or.inl ⟨by rfl, ?y8⟩) hk ?r8
  case y8 => (intro w hSw; (try dsimp only at hSw); go_simp; first | done | with_reducible rfl)
  simp only [Act.put, List.setIfInBounds_toArray, List.set_cons_zero, List.set_cons_succ]
  refine wpAnyH_take (i := 9) (oi := { dst := some 25, op := Op.move (Operand.tmp 0), type := 22, pos := "law.go:21", after := #[{ on := 7, ground := Ground.guard }], guard := some (7, true) }) (v := ?v9) rfl (by kernel_rfl) (by kernel_rfl) (by kernel_rfl) (fun _ _ _ h => h) (Or.inl ⟨by rfl, ?y9⟩) hk ?r9
  case y9 => (intro w hSw; (try dsimp only at hSw); go_simp; first | done | with_reducible rfl)
  simp only [Act.put, List.setIfInBounds_toArray, List.set_cons_zero, List.set_cons_succ]
  refine wpAnyH_ready (rs := [10]) (by decide +kernel) (by simp) ?_
  refine AllReadyH.cons (o := { dst := some 26, op := Op.call { callee := Callee.value (Operand.func 13), args := #[Operand.tmp 24, Operand.tmp 25], argTypes := #[22, 22] }, type := 4, pos := "law.go:21", after := #[{ on := 8, ground := Ground.data }, { on := 9, ground := Ground.data }, { on := 7, ground := Ground.chain }, { on := 7, ground := Ground.guard }], guard := some (7, true) }) rfl (fun K hK => ?_) AllReadyH.nil
  go_simp
  refine (same_yes a2 a1 m m c2 c1 b _ hk.mine hk.came).mono ?_
  rintro e1 w10 ⟨rfl, q, rfl⟩
  replace hk := hk.drewN q
  generalize w5.drewN q = w10 at hk ⊢
  refine hK.out _ _ hk (fun _ => ?_)
  clear hK K
  try simp only [Act.put, List.setIfInBounds_toArray, List.set_cons_zero, List.set_cons_succ]
  refine wpAnyH_take (i := 11) (oi := { dst := some 27, op := Op.pick (Operand.tmp 23) (Operand.tmp 26) (Operand.const (Value.bool false)), type := 4, pos := "law.go:21", after := #[{ on := 7, ground := Ground.data }, { on := 10, ground := Ground.data }], guard := none }) (v := ?v11) rfl (by kernel_rfl) (by kernel_rfl) (by kernel_rfl) (fun _ _ _ h => h) (Or.inl ⟨by rfl, ?y11⟩) hk ?r11
  case y11 => (intro w hSw; (try dsimp only at hSw); go_simp; first | done | with_reducible rfl)
  simp only [Act.put, List.setIfInBounds_toArray, List.set_cons_zero, List.set_cons_succ]
  refine wpAnyH_take (i := 12) (oi := { dst := some 28, op := Op.move (Operand.tmp 27), type := 4, pos := "law.go:21", after := #[{ on := 11, ground := Ground.data }, { on := 10, ground := Ground.chain }], guard := none }) (v := ?v12) rfl (by kernel_rfl) (by kernel_rfl) (by kernel_rfl) (fun _ _ _ h => h) (Or.inl ⟨by rfl, ?y12⟩) hk ?r12
  case y12 => (intro w hSw; (try dsimp only at hSw); go_simp; first | done | with_reducible rfl)
  simp only [Act.put, List.setIfInBounds_toArray, List.set_cons_zero, List.set_cons_succ]
  refine wpAnyH_take (i := 13) (oi := { dst := some 29, op := Op.load 24 (Operand.tmp 6), type := 24, pos := "law.go:21", after := #[{ on := 12, ground := Ground.guard }], guard := some (12, true) }) (v := .agg (bv y).toArray) rfl (by kernel_rfl) (by kernel_rfl) (by kernel_rfl) (fun _ _ _ h => h) (yieldsIf_load_mid (by rfl) 24 (.tmp 6) rfl N 0 rfl (bv y) _ (fun w h => range_row h.fst) Tryd.underlying24 rfl hdy) hk ?_
  simp only [Act.put, List.setIfInBounds_toArray, List.set_cons_zero, List.set_cons_succ]
  refine wpAnyH_take (i := 14) (oi := { dst := some 30, op := Op.load 24 (Operand.tmp 7), type := 24, pos := "law.go:21", after := #[{ on := 12, ground := Ground.guard }], guard := some (12, true) }) (v := .agg (bv z).toArray) rfl (by kernel_rfl) (by kernel_rfl) (by kernel_rfl) (fun _ _ _ h => h) (yieldsIf_load_mid (by rfl) 24 (.tmp 7) rfl (N + 1) 0 rfl (bv z) _ (fun w h => range_row h.snd) Tryd.underlying24 rfl hdz) hk ?_
  simp only [Act.put, List.setIfInBounds_toArray, List.set_cons_zero, List.set_cons_succ]
  refine wpAnyH_take (i := 15) (oi := { dst := some 31, op := Op.move (Operand.tmp 3), type := 3, pos := "law.go:21", after := #[{ on := 12, ground := Ground.guard }], guard := some (12, true) }) (v := ?v15) rfl (by kernel_rfl) (by kernel_rfl) (by kernel_rfl) (fun _ _ _ h => h) (Or.inl ⟨by rfl, ?y15⟩) hk ?r15
  case y15 => (intro w hSw; (try dsimp only at hSw); go_simp; first | done | with_reducible rfl)
  simp only [Act.put, List.setIfInBounds_toArray, List.set_cons_zero, List.set_cons_succ]
  refine wpAnyH_take (i := 17) (oi := { dst := some 33, op := Op.load 24 (Operand.tmp 6), type := 24, pos := "law.go:21", after := #[{ on := 12, ground := Ground.guard }], guard := some (12, true) }) (v := .agg (bv y).toArray) rfl (by kernel_rfl) (by kernel_rfl) (by kernel_rfl) (fun _ _ _ h => h) (yieldsIf_load_mid (by rfl) 24 (.tmp 6) rfl N 0 rfl (bv y) _ (fun w h => range_row h.fst) Tryd.underlying24 rfl hdy) hk ?_
  simp only [Act.put, List.setIfInBounds_toArray, List.set_cons_zero, List.set_cons_succ]
  refine wpAnyH_take (i := 18) (oi := { dst := some 34, op := Op.load 24 (Operand.tmp 7), type := 24, pos := "law.go:21", after := #[{ on := 12, ground := Ground.guard }], guard := some (12, true) }) (v := .agg (bv z).toArray) rfl (by kernel_rfl) (by kernel_rfl) (by kernel_rfl) (fun _ _ _ h => h) (yieldsIf_load_mid (by rfl) 24 (.tmp 7) rfl (N + 1) 0 rfl (bv z) _ (fun w h => range_row h.snd) Tryd.underlying24 rfl hdz) hk ?_
  simp only [Act.put, List.setIfInBounds_toArray, List.set_cons_zero, List.set_cons_succ]
  refine wpAnyH_take (i := 19) (oi := { dst := some 35, op := Op.move (Operand.tmp 3), type := 3, pos := "law.go:21", after := #[{ on := 12, ground := Ground.guard }], guard := some (12, true) }) (v := ?v19) rfl (by kernel_rfl) (by kernel_rfl) (by kernel_rfl) (fun _ _ _ h => h) (Or.inl ⟨by rfl, ?y19⟩) hk ?r19
  case y19 => (intro w hSw; (try dsimp only at hSw); go_simp; first | done | with_reducible rfl)
  simp only [Act.put, List.setIfInBounds_toArray, List.set_cons_zero, List.set_cons_succ]
  refine wpAnyH_ready (rs := [16]) (by decide +kernel) (by simp) ?_
  refine AllReadyH.cons (o := { dst := some 32, op := Op.call { callee := Callee.value (Operand.func 14), args := #[Operand.tmp 29, Operand.tmp 30, Operand.tmp 31], argTypes := #[24, 24, 3] }, type := 24, pos := "law.go:21", after := #[{ on := 13, ground := Ground.data }, { on := 14, ground := Ground.data }, { on := 15, ground := Ground.data }, { on := 12, ground := Ground.chain }, { on := 12, ground := Ground.guard }], guard := some (12, true) }) rfl (fun K hK => ?_) AllReadyH.nil
  go_simp
  refine (HND.out _ hk).mono ?_
  rintro e1 w16 ⟨rfl, hb1⟩
  replace hk := hk.step hb1
  clear hb1
  refine hK.out _ _ hk (fun _ => ?_)
  clear hK K
  try simp only [Act.put, List.setIfInBounds_toArray, List.set_cons_zero, List.set_cons_succ]
  refine wpAnyH_ready (rs := [20]) (by decide +kernel) (by simp) ?_
  refine AllReadyH.cons (o := { dst := some 36, op := Op.call { callee := Callee.value (Operand.func 15), args := #[Operand.tmp 33, Operand.tmp 34, Operand.tmp 35], argTypes := #[24, 24, 3] }, type := 24, pos := "law.go:21", after := #[{ on := 17, ground := Ground.data }, { on := 18, ground := Ground.data }, { on := 19, ground := Ground.data }, { on := 16, ground := Ground.chain }, { on := 12, ground := Ground.guard }], guard := some (12, true) }) rfl (fun K hK => ?_) AllReadyH.nil
  go_simp
  refine (HRN.out _).mono ?_
  rintro e1 w20 ⟨rfl, hb1⟩
  replace hk := hk.step hb1
  clear hb1
  refine hK.out _ _ hk (fun _ => ?_)
  clear hK K
  try simp only [Act.put, List.setIfInBounds_toArray, List.set_cons_zero, List.set_cons_succ]
  refine wpAnyH_take (i := 21) (oi := { dst := some 37, op := Op.binOp BinOp.eql 24 (Operand.tmp 32) (Operand.tmp 36) 24, type := 4, pos := "law.go:21", after := #[{ on := 16, ground := Ground.data }, { on := 20, ground := Ground.data }, { on := 12, ground := Ground.guard }], guard := some (12, true) }) (v := ?v21) rfl (by kernel_rfl) (by kernel_rfl) (by kernel_rfl) (fun _ _ _ h => h) (Or.inl ⟨by rfl, ?y21⟩) hk ?r21
  case y21 => (intro w hSw; (try dsimp only at hSw); go_simp; first | done | with_reducible rfl)
  simp only [Act.put, List.setIfInBounds_toArray, List.set_cons_zero, List.set_cons_succ]
  refine wpAnyH_take (i := 22) (oi := { dst := some 38, op := Op.pick (Operand.tmp 28) (Operand.tmp 37) (Operand.const (Value.bool false)), type := 4, pos := "law.go:21", after := #[{ on := 12, ground := Ground.data }, { on := 21, ground := Ground.data }], guard := none }) (v := ?v22) rfl (by kernel_rfl) (by kernel_rfl) (by kernel_rfl) (fun _ _ _ h => h) (Or.inl ⟨by rfl, ?y22⟩) hk ?r22
  case y22 => (intro w hSw; (try dsimp only at hSw); go_simp; first | done | with_reducible rfl)
  simp only [Act.put, List.setIfInBounds_toArray, List.set_cons_zero, List.set_cons_succ]
  refine wpAnyH_take (i := 23) (oi := { dst := some 39, op := Op.move (Operand.tmp 38), type := 4, pos := "law.go:21", after := #[{ on := 22, ground := Ground.data }, { on := 20, ground := Ground.chain }], guard := none }) (v := ?v23) rfl (by kernel_rfl) (by kernel_rfl) (by kernel_rfl) (fun _ _ _ h => h) (Or.inl ⟨by rfl, ?y23⟩) hk ?r23
  case y23 => (intro w hSw; (try dsimp only at hSw); go_simp; first | done | with_reducible rfl)
  simp only [Act.put, List.setIfInBounds_toArray, List.set_cons_zero, List.set_cons_succ]
  refine wpAnyH_take (i := 24) (oi := { dst := some 40, op := Op.load 24 (Operand.tmp 6), type := 24, pos := "law.go:21", after := #[{ on := 23, ground := Ground.guard }], guard := some (23, true) }) (v := .agg (bv y).toArray) rfl (by kernel_rfl) (by kernel_rfl) (by kernel_rfl) (fun _ _ _ h => h) (yieldsIf_load_mid (by rfl) 24 (.tmp 6) rfl N 0 rfl (bv y) _ (fun w h => range_row h.fst) Tryd.underlying24 rfl hdy) hk ?_
  simp only [Act.put, List.setIfInBounds_toArray, List.set_cons_zero, List.set_cons_succ]
  refine wpAnyH_take (i := 25) (oi := { dst := some 41, op := Op.move (Operand.tmp 3), type := 3, pos := "law.go:21", after := #[{ on := 23, ground := Ground.guard }], guard := some (23, true) }) (v := ?v25) rfl (by kernel_rfl) (by kernel_rfl) (by kernel_rfl) (fun _ _ _ h => h) (Or.inl ⟨by rfl, ?y25⟩) hk ?r25
  case y25 => (intro w hSw; (try dsimp only at hSw); go_simp; first | done | with_reducible rfl)
  simp only [Act.put, List.setIfInBounds_toArray, List.set_cons_zero, List.set_cons_succ]
  refine wpAnyH_take (i := 27) (oi := { dst := some 43, op := Op.load 24 (Operand.tmp 6), type := 24, pos := "law.go:21", after := #[{ on := 23, ground := Ground.guard }], guard := some (23, true) }) (v := .agg (bv y).toArray) rfl (by kernel_rfl) (by kernel_rfl) (by kernel_rfl) (fun _ _ _ h => h) (yieldsIf_load_mid (by rfl) 24 (.tmp 6) rfl N 0 rfl (bv y) _ (fun w h => range_row h.fst) Tryd.underlying24 rfl hdy) hk ?_
  simp only [Act.put, List.setIfInBounds_toArray, List.set_cons_zero, List.set_cons_succ]
  refine wpAnyH_take (i := 28) (oi := { dst := some 44, op := Op.move (Operand.tmp 3), type := 3, pos := "law.go:21", after := #[{ on := 23, ground := Ground.guard }], guard := some (23, true) }) (v := ?v28) rfl (by kernel_rfl) (by kernel_rfl) (by kernel_rfl) (fun _ _ _ h => h) (Or.inl ⟨by rfl, ?y28⟩) hk ?r28
  case y28 => (intro w hSw; (try dsimp only at hSw); go_simp; first | done | with_reducible rfl)
  simp only [Act.put, List.setIfInBounds_toArray, List.set_cons_zero, List.set_cons_succ]
  refine wpAnyH_ready (rs := [26]) (by decide +kernel) (by simp) ?_
  refine AllReadyH.cons (o := { dst := some 42, op := Op.call { callee := Callee.value (Operand.func 16), args := #[Operand.tmp 40, Operand.tmp 41], argTypes := #[24, 3] }, type := 24, pos := "law.go:21", after := #[{ on := 24, ground := Ground.data }, { on := 25, ground := Ground.data }, { on := 23, ground := Ground.chain }, { on := 23, ground := Ground.guard }], guard := some (23, true) }) rfl (fun K hK => ?_) AllReadyH.nil
  go_simp
  refine (HCT.out _).mono ?_
  rintro e1 w26 ⟨rfl, hb1⟩
  replace hk := hk.step hb1
  clear hb1
  refine hK.out _ _ hk (fun _ => ?_)
  clear hK K
  try simp only [Act.put, List.setIfInBounds_toArray, List.set_cons_zero, List.set_cons_succ]
  refine wpAnyH_ready (rs := [29]) (by decide +kernel) (by simp) ?_
  refine AllReadyH.cons (o := { dst := some 45, op := Op.call { callee := Callee.value (Operand.func 17), args := #[Operand.tmp 43, Operand.tmp 44], argTypes := #[24, 3] }, type := 24, pos := "law.go:21", after := #[{ on := 27, ground := Ground.data }, { on := 28, ground := Ground.data }, { on := 26, ground := Ground.chain }, { on := 23, ground := Ground.guard }], guard := some (23, true) }) rfl (fun K hK => ?_) AllReadyH.nil
  go_simp
  refine (HRC.out _).mono ?_
  rintro e1 w29 ⟨rfl, hb1⟩
  replace hk := hk.step hb1
  clear hb1
  refine hK.out _ _ hk (fun _ => ?_)
  clear hK K
  try simp only [Act.put, List.setIfInBounds_toArray, List.set_cons_zero, List.set_cons_succ]
  refine wpAnyH_take (i := 30) (oi := { dst := some 46, op := Op.binOp BinOp.eql 24 (Operand.tmp 42) (Operand.tmp 45) 24, type := 4, pos := "law.go:21", after := #[{ on := 26, ground := Ground.data }, { on := 29, ground := Ground.data }, { on := 23, ground := Ground.guard }], guard := some (23, true) }) (v := ?v30) rfl (by kernel_rfl) (by kernel_rfl) (by kernel_rfl) (fun _ _ _ h => h) (Or.inl ⟨by rfl, ?y30⟩) hk ?r30
  case y30 => (intro w hSw; (try dsimp only at hSw); go_simp; first | done | with_reducible rfl)
  simp only [Act.put, List.setIfInBounds_toArray, List.set_cons_zero, List.set_cons_succ]
  refine wpAnyH_take (i := 31) (oi := { dst := some 47, op := Op.pick (Operand.tmp 39) (Operand.tmp 46) (Operand.const (Value.bool false)), type := 4, pos := "law.go:21", after := #[{ on := 23, ground := Ground.data }, { on := 30, ground := Ground.data }], guard := none }) (v := ?v31) rfl (by kernel_rfl) (by kernel_rfl) (by kernel_rfl) (fun _ _ _ h => h) (Or.inl ⟨by rfl, ?y31⟩) hk ?r31
  case y31 => (intro w hSw; (try dsimp only at hSw); go_simp; first | done | with_reducible rfl)
  simp only [Act.put, List.setIfInBounds_toArray, List.set_cons_zero, List.set_cons_succ]
  refine wpAnyH_take (i := 32) (oi := { dst := some 48, op := Op.move (Operand.tmp 47), type := 4, pos := "law.go:21", after := #[{ on := 31, ground := Ground.data }, { on := 29, ground := Ground.chain }], guard := none }) (v := ?v32) rfl (by kernel_rfl) (by kernel_rfl) (by kernel_rfl) (fun _ _ _ h => h) (Or.inl ⟨by rfl, ?y32⟩) hk ?r32
  case y32 => (intro w hSw; (try dsimp only at hSw); go_simp; first | done | with_reducible rfl)
  simp only [Act.put, List.setIfInBounds_toArray, List.set_cons_zero, List.set_cons_succ]
  refine wpAnyH_take (i := 33) (oi := { dst := some 49, op := Op.move (Operand.tmp 4), type := 3, pos := "law.go:21", after := #[{ on := 32, ground := Ground.guard }], guard := some (32, true) }) (v := ?v33) rfl (by kernel_rfl) (by kernel_rfl) (by kernel_rfl) (fun _ _ _ h => h) (Or.inl ⟨by rfl, ?y33⟩) hk ?r33
  case y33 => (intro w hSw; (try dsimp only at hSw); go_simp; first | done | with_reducible rfl)
  simp only [Act.put, List.setIfInBounds_toArray, List.set_cons_zero, List.set_cons_succ]
  refine wpAnyH_take (i := 35) (oi := { dst := some 51, op := Op.move (Operand.tmp 4), type := 3, pos := "law.go:21", after := #[{ on := 32, ground := Ground.guard }], guard := some (32, true) }) (v := ?v35) rfl (by kernel_rfl) (by kernel_rfl) (by kernel_rfl) (fun _ _ _ h => h) (Or.inl ⟨by rfl, ?y35⟩) hk ?r35
  case y35 => (intro w hSw; (try dsimp only at hSw); go_simp; first | done | with_reducible rfl)
  simp only [Act.put, List.setIfInBounds_toArray, List.set_cons_zero, List.set_cons_succ]
  refine wpAnyH_ready (rs := [34]) (by decide +kernel) (by simp) ?_
  refine AllReadyH.cons (o := { dst := some 50, op := Op.call { callee := Callee.value (Operand.func 18), args := #[Operand.tmp 49], argTypes := #[3] }, type := 3, pos := "law.go:21", after := #[{ on := 33, ground := Ground.data }, { on := 32, ground := Ground.chain }, { on := 32, ground := Ground.guard }], guard := some (32, true) }) rfl (fun K hK => ?_) AllReadyH.nil
  go_simp
  refine (HSP.out _).mono ?_
  rintro e1 w' ⟨rfl, rfl⟩
  refine hK.out _ _ hk (fun _ => ?_)
  clear hK K
  try simp only [Act.put, List.setIfInBounds_toArray, List.set_cons_zero, List.set_cons_succ]
  refine wpAnyH_ready (rs := [36]) (by decide +kernel) (by simp) ?_
  refine AllReadyH.cons (o := { dst := some 52, op := Op.call { callee := Callee.value (Operand.func 19), args := #[Operand.tmp 51], argTypes := #[3] }, type := 3, pos := "law.go:21", after := #[{ on := 35, ground := Ground.data }, { on := 34, ground := Ground.chain }, { on := 32, ground := Ground.guard }], guard := some (32, true) }) rfl (fun K hK => ?_) AllReadyH.nil
  go_simp
  refine (HRS.out _).mono ?_
  rintro e1 w' ⟨rfl, rfl⟩
  refine hK.out _ _ hk (fun _ => ?_)
  clear hK K
  try simp only [Act.put, List.setIfInBounds_toArray, List.set_cons_zero, List.set_cons_succ]
  refine wpAnyH_take (i := 37) (oi := { dst := some 53, op := Op.binOp BinOp.eql 3 (Operand.tmp 50) (Operand.tmp 52) 3, type := 4, pos := "law.go:21", after := #[{ on := 34, ground := Ground.data }, { on := 36, ground := Ground.data }, { on := 32, ground := Ground.guard }], guard := some (32, true) }) (v := ?v37) rfl (by kernel_rfl) (by kernel_rfl) (by kernel_rfl) (fun _ _ _ h => h) (Or.inl ⟨by rfl, ?y37⟩) hk ?r37
  case y37 => (intro w hSw; (try dsimp only at hSw); go_simp; first | done | with_reducible rfl)
  simp only [Act.put, List.setIfInBounds_toArray, List.set_cons_zero, List.set_cons_succ]
  refine wpAnyH_take (i := 38) (oi := { dst := some 54, op := Op.pick (Operand.tmp 48) (Operand.tmp 53) (Operand.const (Value.bool false)), type := 4, pos := "law.go:21", after := #[{ on := 32, ground := Ground.data }, { on := 37, ground := Ground.data }], guard := none }) (v := ?v38) rfl (by kernel_rfl) (by kernel_rfl) (by kernel_rfl) (fun _ _ _ h => h) (Or.inl ⟨by rfl, ?y38⟩) hk ?r38
  case y38 => (intro w hSw; (try dsimp only at hSw); go_simp; first | done | with_reducible rfl)
  simp only [Act.put, List.setIfInBounds_toArray, List.set_cons_zero, List.set_cons_succ]
  refine wpAnyH_take (i := 39) (oi := { dst := some 55, op := Op.move (Operand.tmp 54), type := 4, pos := "law.go:21", after := #[{ on := 38, ground := Ground.data }, { on := 36, ground := Ground.chain }], guard := none }) (v := ?v39) rfl (by kernel_rfl) (by kernel_rfl) (by kernel_rfl) (fun _ _ _ h => h) (Or.inl ⟨by rfl, ?y39⟩) hk ?r39
  case y39 => (intro w hSw; (try dsimp only at hSw); go_simp; first | done | with_reducible rfl)
  simp only [Act.put, List.setIfInBounds_toArray, List.set_cons_zero, List.set_cons_succ]
  refine wpAnyH_ready (rs := [40]) (by decide +kernel) (by simp) ?_
  refine AllReadyH.cons (o := { dst := some 56, op := Op.call { callee := Callee.value (Operand.func 20), args := #[], argTypes := #[] }, type := 4, pos := "law.go:21", after := #[{ on := 39, ground := Ground.chain }, { on := 39, ground := Ground.guard }], guard := some (39, true) }) rfl (fun K hK => ?_) AllReadyH.nil
  go_simp
  refine (lives_any _ hk.tab).mono ?_
  rintro e1 w40 ⟨rfl, hb1⟩
  replace hk := hk.step hb1
  clear hb1
  refine hK.out _ _ hk (fun _ => ?_)
  clear hK K
  try simp only [Act.put, List.setIfInBounds_toArray, List.set_cons_zero, List.set_cons_succ]
  refine wpAnyH_take (i := 41) (oi := { dst := some 57, op := Op.pick (Operand.tmp 55) (Operand.tmp 56) (Operand.const (Value.bool false)), type := 4, pos := "law.go:21", after := #[{ on := 39, ground := Ground.data }, { on := 40, ground := Ground.data }], guard := none }) (v := ?v41) rfl (by kernel_rfl) (by kernel_rfl) (by kernel_rfl) (fun _ _ _ h => h) (Or.inl ⟨by rfl, ?y41⟩) hk ?r41
  case y41 => (intro w hSw; (try dsimp only at hSw); go_simp; first | done | with_reducible rfl)
  simp only [Act.put, List.setIfInBounds_toArray, List.set_cons_zero, List.set_cons_succ]
  refine wpAnyH_take (i := 42) (oi := { dst := some 10, op := Op.assign (Operand.tmp 57), type := 4, pos := "law.go:21", after := #[{ on := 41, ground := Ground.data }, { on := 40, ground := Ground.chain }, { on := 0, ground := Ground.phase }, { on := 1, ground := Ground.phase }, { on := 2, ground := Ground.phase }, { on := 3, ground := Ground.phase }, { on := 4, ground := Ground.phase }, { on := 5, ground := Ground.phase }, { on := 6, ground := Ground.phase }, { on := 7, ground := Ground.phase }, { on := 8, ground := Ground.phase }, { on := 9, ground := Ground.phase }, { on := 10, ground := Ground.phase }, { on := 11, ground := Ground.phase }, { on := 12, ground := Ground.phase }, { on := 13, ground := Ground.phase }, { on := 14, ground := Ground.phase }, { on := 15, ground := Ground.phase }, { on := 16, ground := Ground.phase }, { on := 17, ground := Ground.phase }, { on := 18, ground := Ground.phase }, { on := 19, ground := Ground.phase }, { on := 20, ground := Ground.phase }, { on := 21, ground := Ground.phase }, { on := 22, ground := Ground.phase }, { on := 23, ground := Ground.phase }, { on := 24, ground := Ground.phase }, { on := 25, ground := Ground.phase }, { on := 26, ground := Ground.phase }, { on := 27, ground := Ground.phase }, { on := 28, ground := Ground.phase }, { on := 29, ground := Ground.phase }, { on := 30, ground := Ground.phase }, { on := 31, ground := Ground.phase }, { on := 32, ground := Ground.phase }, { on := 33, ground := Ground.phase }, { on := 34, ground := Ground.phase }, { on := 35, ground := Ground.phase }, { on := 36, ground := Ground.phase }, { on := 37, ground := Ground.phase }, { on := 38, ground := Ground.phase }, { on := 39, ground := Ground.phase }, { on := 40, ground := Ground.phase }, { on := 41, ground := Ground.phase }], guard := none }) (v := ?v42) rfl (by kernel_rfl) (by kernel_rfl) (by kernel_rfl) (fun _ _ _ h => h) (Or.inl ⟨by rfl, ?y42⟩) hk ?r42
  case y42 => (intro w hSw; (try dsimp only at hSw); go_simp; first | done | with_reducible rfl)
  simp only [Act.put, List.setIfInBounds_toArray, List.set_cons_zero, List.set_cons_succ]
  refine wpAnyH_done (by decide +kernel) ?_ _
  have hlow : Below w.heap.size w w40 := by rw [← HN.out]; exact hk.low
  clear hk hq1 hq2 hq3 hdy hdz
  go_wp2
  go_ret
  exact ⟨rfl, hlow⟩

set_option maxRecDepth 100000 in
/-- what the walk gives, for every argument and every world that holds the table -/
theorem contract (H : Type) (enc : TypeId × Value → H) (W : World) (base : Nat) (args : Array Value) (ds gs : List (DataW H)) (before : List MemPlace)
    (hval0 : ∀ (j : Nat) t v, Tryd.f3.params[j]? = some t → args[j]? = some v → Value.okWide Tryd.prog W .any base t v)
    (hW : DataW.Whole enc Tryd.prog Tryd.f3.params.toList Rows.merkleSumsSpec.vars false W args.toList ds gs before) (hL : laidMetH Tryd.prog Rows.merkleSumsRow.laid W) :
    Calls Tryd.prog 3 args W fun e W' => ∃ v, e = .returned v ∧ Rows.merkleSumsSpec.post enc Tryd.prog Tryd.f3 false true false false W args v W' := by
  have htab := tab_of_laid hL
  have hval : ∀ (j : Nat) t v, Tryd.f3.params[j]? = some t → args[j]? = some v → Value.okWide Tryd.prog W .any base t v := hval0
  have hW' := hW
  obtain ⟨p, q, hA0, hV, rfl, hfz, hnd⟩ := hW
  have hA : DataW.TrodAll enc Tryd.prog W 0 (fun _ => true) true Tryd.f3.params.toList args.toList ds p := hA0
  rw [Tryd.params3] at hA hval
  obtain ⟨v0, vs0, d0, ds0, p0, q0, hargs, rfl, rfl, h0, r0⟩ := trodAll_cons hA
  obtain ⟨v1, vs1, d1, ds1, p1, q1, rfl, rfl, rfl, h1, r1⟩ := trodAll_cons r0
  obtain ⟨v2, vs2, d2, ds2, p2, q2, rfl, rfl, rfl, h2, r2⟩ := trodAll_cons r1
  obtain ⟨v3, vs3, d3, ds3, p3, q3, rfl, rfl, rfl, h3, r3⟩ := trodAll_cons r2
  obtain ⟨v4, vs4, d4, ds4, p4, q4, rfl, rfl, rfl, h4, r4⟩ := trodAll_cons r3
  obtain ⟨rfl, rfl, rfl⟩ := trodAll_nil r4
  obtain rfl : args = #[v0, v1, v2, v3, v4] := by cases args; simp_all
  obtain ⟨rfl, rfl⟩ := trodVars_none hV
  obtain ⟨a0, len0, cap0, rfl⟩ := okWide_slice Tryd.underlying22 (hval 0 22 v0 rfl rfl)
  have k0 := h0
  have lt0 : ∀ x ∈ p0, x.block < W.heap.size := by obtain ⟨m, hm⟩ := k0; exact DataW.trod_lt m _ _ _ hm
  have k1 := h1
  have lt1 : ∀ x ∈ p1, x.block < W.heap.size := by obtain ⟨m, hm⟩ := k1; exact DataW.trod_lt m _ _ _ hm
  have k2 := h2
  have lt2 : ∀ x ∈ p2, x.block < W.heap.size := by obtain ⟨m, hm⟩ := k2; exact DataW.trod_lt m _ _ _ hm
  have k3 := h3
  have lt3 : ∀ x ∈ p3, x.block < W.heap.size := by obtain ⟨m, hm⟩ := k3; exact DataW.trod_lt m _ _ _ hm
  have k4 := h4
  have lt4 : ∀ x ∈ p4, x.block < W.heap.size := by obtain ⟨m, hm⟩ := k4; exact DataW.trod_lt m _ _ _ hm
  obtain ⟨l, hl⟩ := open_bytes h0
  obtain ⟨y, rfl, hy⟩ := open_dig (hval 1 24 v1 rfl rfl) h1
  obtain ⟨z, rfl, hz⟩ := open_dig (hval 2 24 v2 rfl rfl) h2
  obtain ⟨x3, rfl, hx3⟩ := open_i64 (hval 3 3 v3 rfl rfl) h3
  obtain ⟨x4, rfl, hx4⟩ := open_i64 (hval 4 3 v4 rfl rfl) h4
  clear hA0 hval0
  refine (walk a0 len0 cap0 l y z x3 x4 W hl hy hz hx3 hx4 htab).mono fun e W' ⟨he, bel⟩ => ?_
  subst he
  exact ⟨_, rfl, _, _, _, [], _, [], hW', trodAll_mk1 (shut_bool Tryd.underlying4 _), (trodAll_cons_mk (Below.trod laidOut (by kernel_rfl) (of_decide_eq_true (by kernel_rfl)) k0 bel lt0) (trodAll_cons_mk (Below.trod laidOut (by kernel_rfl) (of_decide_eq_true (by kernel_rfl)) k1 bel lt1) (trodAll_cons_mk (Below.trod laidOut (by kernel_rfl) (of_decide_eq_true (by kernel_rfl)) k2 bel lt2) (trodAll_cons_mk (Below.trod laidOut (by kernel_rfl) (of_decide_eq_true (by kernel_rfl)) k3 bel lt3) (trodAll_cons_mk (Below.trod laidOut (by kernel_rfl) (of_decide_eq_true (by kernel_rfl)) k4 bel lt4) trodAll_mk0))))), rfl, bel.frame _, fun h => by cases h⟩

set_option maxRecDepth 100000 in
theorem laid_met (os : Os) : laidMet Tryd.prog Rows.merkleSumsRow.laid (({ World.holding Tryd.prog os ⟨#[], #[], []⟩ with heap := (World.holding Tryd.prog os ⟨#[], #[], []⟩).heap.setIfInBounds 0 (.cells (uv keyL).toArray 86) } : World).forCall (fun _ _ => 0) ⟨#[], #[.slice none 0 0, .agg (bv (List.replicate 32 0)).toArray, .agg (bv (List.replicate 32 0)).toArray, .int .i64 0, .int .i64 0], []⟩).memory :=
  laidMet_of_run' 8 (by kernel_rfl) (by kernel_rfl)
set_option maxRecDepth 100000 in
theorem reads (os : Os) {H : Type} (enc : TypeId × Value → H) : ∃ places, DataW.whole enc Tryd.prog (({ World.holding Tryd.prog os ⟨#[], #[], []⟩ with heap := (World.holding Tryd.prog os ⟨#[], #[], []⟩).heap.setIfInBounds 0 (.cells (uv keyL).toArray 86) } : World).forCall (fun _ _ => 0) ⟨#[], #[.slice none 0 0, .agg (bv (List.replicate 32 0)).toArray, .agg (bv (List.replicate 32 0)).toArray, .int .i64 0, .int .i64 0], []⟩).memory Tryd.f3.params.toList Rows.merkleSumsSpec.vars false (#[.slice none 0 0, .agg (bv (List.replicate 32 0)).toArray, .agg (bv (List.replicate 32 0)).toArray, .int .i64 0, .int .i64 0] : Array Value).toList 8 = some ([.nil, .agg (List.replicate 32 (.lit (.int .u8 0))), .agg (List.replicate 32 (.lit (.int .u8 0))), .lit (.int .i64 0), .lit (.int .i64 0)], [], places) :=
  ⟨[], by kernel_rfl⟩
set_option maxRecDepth 100000 in
theorem lifted (os : Os) (started : os.Started) (H : Type) (enc : TypeId × Value → H) (F : Stop.Interp) :
    ReturnsInHanded {} Tryd.checked os 3 .any ((OpenSpec.ofChange Rows.merkleSumsSpec).preRow enc Tryd.prog Tryd.f3 Rows.merkleSumsRow.domain false Rows.merkleSumsRow.laid) (((OpenSpec.ofChange Rows.merkleSumsSpec).at F).post enc Tryd.prog Tryd.f3 false true false false) := by
  obtain ⟨places, hx⟩ := reads os enc
  refine returnsInHanded_of_row (C := Tryd.checked) (s := OpenSpec.ofChange Rows.merkleSumsSpec) own started (by kernel_rfl) Tryd.func3
    (witness_row_at (enc := enc) (C := Tryd.checked) false ({ World.holding Tryd.prog os ⟨#[], #[], []⟩ with heap := (World.holding Tryd.prog os ⟨#[], #[], []⟩).heap.setIfInBounds 0 (.cells (uv keyL).toArray 86) } : World) #[.slice none 0 0, .agg (bv (List.replicate 32 0)).toArray, .agg (bv (List.replicate 32 0)).toArray, .int .i64 0, .int .i64 0] rfl (by kernel_rfl) (by kernel_rfl) (by kernel_rfl)
      (OpenSpec.preRow_of_cond 8 hx (by kernel_rfl) (fun k hk => by cases hk) (by kernel_rfl) (laid_met os))) ?_
  intro W base args ds gs before hval hW _ _ _ hL _ _
  exact contract H enc W base args ds gs before hval hW hL
theorem said : Rows.MerkleSumsSaid :=
  OpenClaim.holds_of_cond 3 Tryd.f3 rfl rfl rfl rfl rfl rfl rfl ⟨rfl, rfl, rfl, rfl, rfl⟩ rfl rfl rfl rfl rfl (by kernel_rfl) Tryd.func3 (by kernel_rfl)
    (of_decide_eq_true (by kernel_rfl)) (by unfold Func.isWrapper; first | (rw [if_pos (by decide +kernel)]; kernel_rfl) | (rw [if_neg (by decide +kernel)]; exact ⟨rfl, rfl⟩))
    (fun os started H enc _ F => by rw [OpenClaim.pre_eq_preRow]; exact lifted os started H enc F)
theorem plain (f : FuncId) (fn : Func) (hf : Tryd.pinned.checked.prog.funcNamed "inquest/inquestlaw06.MerkleSums" = some f) (hfn : Tryd.pinned.checked.prog.funcs[f]? = some fn) :
    false = Tryd.pinned.checked.prog.looks [] ∧ ∀ (j : Nat) t, fn.params[j]? = some t → Tryd.pinned.checked.prog.wantsStandIn t = false := by
  obtain rfl : f = 3 := Option.some.inj ((show Tryd.prog.funcNamed "inquest/inquestlaw06.MerkleSums" = some 3 by kernel_rfl).symm.trans hf) |>.symm
  obtain rfl : fn = Tryd.f3 := (Option.some.inj (Tryd.func3.symm.trans hfn)).symm
  refine ⟨by kernel_rfl, fun j t ht => ?_⟩
  rw [Tryd.params3] at ht
  have hall : ([22, 24, 24, 3, 3].all fun u => !Tryd.prog.wantsStandIn u) = true := by kernel_rfl
  have hm : t ∈ [22, 24, 24, 3, 3] := by simpa using Array.mem_of_getElem? ht
  exact (show Tryd.prog.wantsStandIn t = false by simpa using List.all_eq_true.1 hall t hm)
/-- the tied card -/
theorem card : Rows.MerkleSumsCardSaid :=
  Claim7.holds_tied_plain_at .later [] _ _ _ _ said (fun _ h => by cases h) (by kernel_rfl) (fun _ h => by cases h) merkleSums_row_tie rfl ⟨rfl, rfl⟩ (by kernel_rfl) rfl plain (by kernel_rfl)
end Go.Proofs.YtaphbenkkicbhaaDoor.merkleSums
namespace Go.Proofs.YtaphbenkkicbhaaDoor
theorem merkleSums_holds : Rows.MerkleSumsCardSaid := merkleSums.card
#print axioms merkleSums_holds
end Go.Proofs.YtaphbenkkicbhaaDoor
