/- For every list of slices of bytes, every digest, every list of digests and every two numbers the law ClashGrowths returns true and the arguments read as they did (P7.3, P7.4): from each growth that is taken for another beginning (up to 20 texts of up to 60 bytes, up to 70 digests) two texts of one sum are taken out, and from no other one. The package's table is as the program's text lays it (the card ties it). -/
import Derived.Test.YtfkloilbjfleeaaDoorDoor
import Derived.Test.YtfkloilbjfleeaaDoorRefGrow7
import Derived.Test.YtfkloilbjfleeaaDoorCGrow
import Derived.Test.YtfkloilbjfleeaaDoorSma
import Derived.Test.YtfkloilbjfleeaaDoorDgsIn
import Derived.Test.YtfkloilbjfleeaaDoorTxsIn
import Derived.WalkKit
import Derived.ShutString
import Derived.ChangeOld
import Derived.Below
namespace Go.Proofs.YtfkloilbjfleeaaDoor.clashGrowths
open Go.ChangeShapes Go.WideShapes Go.ChangeAt Go.RowKit
open Go.ChangeMaps (open_string shut_string)
set_option linter.unusedVariables false

theorem laidOut : laidOutB Tryd.prog = true := by kernel_rfl

/-- what stays while the law goes on: what was answered, and what was handed in -/
structure QG (V N : Nat) (a b : Option Addr) (n k c d : Nat) (A B old : List Int) (da : Option Addr) (dn dc : Nat) (TT : List (List Int)) (pa : Option Addr) (pn pc : Nat) (P : List (List Int)) (w wr : World) : Prop where
  low : Below w.heap.size w wr
  vr : wr.heap[V]? = some (.cells #[.slice a n c, .slice b k d] 25 (0, 0))
  vo : wr.heap[N]? = some (.cells (bv old).toArray 42 (0, 0))
  hA : Bts wr a n c A
  hB : Bts wr b k d B
  dat : Txs wr da dn dc TT
  pth : Dgs wr pa pn pc P
theorem QG.step {V N : Nat} {a b : Option Addr} {n k c d : Nat} {A B old : List Int} {da : Option Addr} {dn dc : Nat} {TT : List (List Int)} {pa : Option Addr} {pn pc : Nat} {P : List (List Int)} {w wr w1 : World} (h : QG V N a b n k c d A B old da dn dc TT pa pn pc P w wr) (hb : Below wr.heap.size wr w1) : QG V N a b n k c d A B old da dn dc TT pa pn pc P w w1 :=
  ⟨h.low.trans (hb.mono h.low.size), row_step h.vr hb, row_step h.vo hb, h.hA.below hb, h.hB.below hb, h.dat.below hb, h.pth.below hb⟩
theorem QG.drewN {V N : Nat} {a b : Option Addr} {n k c d : Nat} {A B old : List Int} {da : Option Addr} {dn dc : Nat} {TT : List (List Int)} {pa : Option Addr} {pn pc : Nat} {P : List (List Int)} {w wr : World} (h : QG V N a b n k c d A B old da dn dc TT pa pn pc P w wr) (q : Nat) : QG V N a b n k c d A B old da dn dc TT pa pn pc P w (wr.drewN q) :=
  ⟨below_drewN h.low q, h.vr, h.vo, h.hA.drewN q, h.hB.drewN q, h.dat.drewN q, h.pth.drewN q⟩

set_option maxRecDepth 100000 in
set_option maxHeartbeats 1000000 in
theorem walk (a0 : Option Addr) (len0 cap0 : Nat) (T : List (List Int)) (m : Int) (old : List Int) (a3 : Option Addr) (len3 cap3 : Nat) (L : List (List Int)) (x : Int) (w : World) (hT : Txs w a0 len0 cap0 T) (hm : -9223372036854775808 ≤ m ∧ m ≤ 9223372036854775807) (hold : Dg old) (hL : Dgs w a3 len3 cap3 L) (hx : -9223372036854775808 ≤ x ∧ x ≤ 9223372036854775807) (htab : Tab w) :
    Calls Tryd.prog 5 #[.slice a0 len0 cap0, .int .i64 m, .agg (bv old).toArray, .slice a3 len3 cap3, .int .i64 x] w fun e w' => e = .returned (.bool true) ∧ Below w.heap.size w w' := by
  have hb0 : Below w.heap.size w (w.alloc (.cells (bv old).toArray 42)) := (Below.refl _ _).alloc (Nat.le_refl _) _
  have hvo : (w.alloc (.cells (bv old).toArray 42)).heap[w.heap.size]? = some (.cells (bv old).toArray 42 (0, 0)) := heap_alloc_new _ _
  go_enter Tryd.func5, Tryd.ntmps5
  go_wp2_with fail
  generalize w.alloc (.cells (bv old).toArray 42) = w0 at hb0 hvo ⊢
  obtain ⟨N, hN⟩ : ∃ N, N = w.heap.size := ⟨_, rfl⟩
  rw [← hN] at hvo ⊢
  clear hN
  have hT0 := hT.below hb0
  have hL0 := hL.below hb0
  clear hT hL
  refine (few7_any a0 len0 cap0 20 60 T _ hT0 (by decide) (by decide) (by decide)).mono ?_
  rintro e w1 ⟨da, dn, dc, rfl, hdn, hd1, hb1⟩
  have hL1 := hL0.below hb1
  have hvo1 := row_step hvo hb1
  have hlow1 := bstep hb0 hb1
  have hfit := fewT_fit T 20 60
  have hagain := fewT_again T 20 60
  generalize fewT T 20 60 = TT at hd1 hfit hagain
  have HFIT : Bx (∀ t ∈ TT, t.length ≤ 100000) := ⟨fun t ht => Nat.le_trans (hfit t ht) (by decide)⟩
  have HAG : Bx (fewT TT 20 60 = TT) := ⟨hagain⟩
  clear hT0 hL0 hfit hagain hvo hb0 hb1
  go_wp2_with fail
  refine (few_any a3 len3 cap3 70 L _ hL1 (by decide)).mono ?_
  rintro e w2 ⟨pa, pn, pc, rfl, hpn, hp2, hb2⟩
  have hd2 := hd1.below hb2
  have hvo2 := row_step hvo1 hb2
  have hlow2 := bstep hlow1 hb2
  have HPA : Bx ((L.take 70).take 70 = L.take 70) := ⟨by rw [List.take_take, Nat.min_self]⟩
  generalize L.take 70 = P at hp2 HPA
  clear hL1 hd1 hb2 hvo1 hlow1
  go_wp2_with fail
  refine (few7_any da dn dc 20 60 TT _ hd2 (by decide) (by decide) (by decide)).mono ?_
  rintro e w3 ⟨ea, en, ec, rfl, hen, he3, hb3⟩
  rw [HAG.out] at he3
  obtain rfl : en = dn := he3.len_eq.symm.trans hd2.len_eq
  have hd3 := hd2.below hb3
  have hp3 := hp2.below hb3
  have hvo3 := row_step hvo2 hb3
  have hlow3 := bstep hlow2 hb3
  clear hd2 hp2 hb3 hlow2 HAG hen hvo2
  go_wp2_with fail
  refine (few_any pa pn pc 70 P _ hp3 (by decide)).mono ?_
  rintro e w5 ⟨qa, qn, qc, rfl, hqn, hq5, hb5⟩
  rw [HPA.out] at hq5
  obtain rfl : qn = pn := hq5.len_eq.symm.trans hp3.len_eq
  have hd5 := hd3.below hb5
  have he5 := he3.below hb5
  have hp5 := hp3.below hb5
  have hvo5 := row_step hvo3 hb5
  have hlow5 := bstep hlow3 hb5
  have HVO : Bx _ := ⟨hvo5⟩
  have HID : Bx ((Tryd.prog.info? 42).map (·.size) = some (bv old).toArray.size) := ⟨by rw [List.size_toArray, bv_length, hold.1]; exact dig_info⟩
  clear hd3 he3 hp3 hb5 hlow3 HPA hqn hvo3 hvo5
  go_wp2_with (refine wpList_load_row rfl 42 (.tmp 7) rfl N rfl 42 (bv old).toArray (0, 0) _ HVO.out Tryd.underlying42 rfl HID.out ?_)
  refine (cgrow_any ea en ec TT m old qa qn qc P x _ he5 HFIT.out (by omega) hold hq5 (by omega) (htab.below hlow5)).mono ?_
  rintro e w6 ⟨hans, hb6⟩
  obtain ⟨a, n, c, b, k, d, A, B, rfl, hA, hB, hn, hk0, h1, h2⟩ := cans_form hans
  have hd6 := hd5.below hb6
  have he6 := he5.below hb6
  have hp6 := hp5.below hb6
  have hq6 := hq5.below hb6
  have hvo6 := row_step HVO.out hb6
  have hlow6 := bstep hlow5 hb6
  clear hd5 he5 hp5 hq5 hb6 hlow5 hans HVO HID
  have hb7 : Below w6.heap.size w6 (w6.alloc (.cells #[.slice a n c, .slice b k d] 25)) := (Below.refl _ _).alloc (Nat.le_refl _) _
  have hk7 : QG w6.heap.size N a b n k c d A B old da en dc TT pa qn pc P w (w6.alloc (.cells #[.slice a n c, .slice b k d] 25)) := ⟨bstep hlow6 hb7, heap_alloc_new _ _, row_step hvo6 hb7, hA.below hb7, hB.below hb7, hd6.below hb7, hp6.below hb7⟩
  have he7 := he6.below hb7
  have hq7 := hq6.below hb7
  have HMU : Bx _ := ⟨h1⟩
  have HMN : Bx _ := ⟨h2⟩
  have HRP : Bx (∀ W, QG w6.heap.size N a b n k c d A B old da en dc TT pa qn pc P w W → Calls Tryd.prog 22 #[.slice da en dc, .int .i64 m, .agg (bv old).toArray, .slice pa qn pc, .int .i64 x] W fun e w' => e = .returned (.bool (mustG TT m old P x)) ∧ Below W.heap.size W w') := ⟨fun W h => refgrow7_any da en dc TT m old pa qn pc P x W h.dat HFIT.out (by omega) hold h.pth (htab.below h.low)⟩
  generalize mustG TT m old P x = must at HMU HMN HRP ⊢
  have HFO : Bx (∀ W, QG w6.heap.size N a b n k c d A B old da en dc TT pa qn pc P w W → Calls Tryd.prog 19 #[.agg #[.slice a n c, .slice b k d], .bool must, .bool must, .int .i64 x] W fun e w' => e = .returned (.bool true) ∧ Below W.heap.size W w') := ⟨fun W h => found_any a b n k c d A B must x W h.hA h.hB hn hk0 HMU.out HMN.out (htab.below h.low)⟩
  have HK7 : Bx _ := ⟨hk7⟩
  have HE7 : Bx _ := ⟨he7⟩
  have HQ7 : Bx _ := ⟨hq7⟩
  clear hA hB h1 h2 hd6 he6 hp6 hq6 hlow6 hb7 hk7 he7 hq7 HMU HMN HFIT hvo6
  go_wp2_with fail
  have hk7 := HK7.out
  have he7 := HE7.out
  have hq7 := HQ7.out
  clear HK7 HE7 HQ7
  generalize w6.alloc (.cells #[.slice a n c, .slice b k d] 25) = w7 at hk7 he7 hq7 ⊢
  generalize w6.heap.size = V at hk7 HRP HFO ⊢
  refine (tsame_yes ea da en ec dc TT _ he7 hk7.dat).mono ?_
  rintro e w8 ⟨rfl, q8, rfl⟩
  have hk8 := hk7.drewN q8
  have hq8 := hq7.drewN q8
  generalize w7.drewN q8 = w8 at hk8 hq8 ⊢
  clear hk7 he7 hq7
  go_wp2_with fail
  refine (dsame_yes qa pa qn qc pc P _ hq8 hk8.pth).mono ?_
  rintro e w10 ⟨rfl, q10, rfl⟩
  have hk10 := hk8.drewN q10
  generalize w8.drewN q10 = w10 at hk10 ⊢
  clear hk8 hq8
  have hdO : (Tryd.prog.info? 42).map (·.size) = some (bv old).length := by rw [bv_length, hold.1]; exact dig_info
  go_wp2_with fail
  have hk : QG V N a b n k c d A B old da en dc TT pa qn pc P w w10.drew := hk10.drewN 1
  clear hk10
  refine wp_region_held_drew (S := fun W => QG V N a b n k c d A B old da en dc TT pa qn pc P w W) (by kernel_rfl) hk (fun _ => ?_)
  generalize w10.drew = wk at hk ⊢
  refine wpAnyH_take (i := 0) (oi := { dst := some 42, op := Op.load 25 (Operand.tmp 13), type := 25, pos := "law.go:51", after := #[], guard := none }) (v := .agg ([.slice a n c, .slice b k d]).toArray) rfl (by kernel_rfl) (by kernel_rfl) (by kernel_rfl) (fun _ _ _ h => h) (yieldsIf_load_mid (by rfl) 25 (.tmp 13) rfl V 0 rfl ([.slice a n c, .slice b k d]) _ (fun W h => range_row h.vr) Tryd.underlying25 rfl cls_info) hk ?_
  simp only [Act.put, List.setIfInBounds_toArray, List.set_cons_zero, List.set_cons_succ]
  refine wpAnyH_take (i := 1) (oi := { dst := some 43, op := Op.move (Operand.tmp 14), type := 4, pos := "law.go:51", after := #[], guard := none }) (v := ?vlgr1) rfl (by kernel_rfl) (by kernel_rfl) (by kernel_rfl) (fun _ _ _ h => h) (Or.inl ⟨by rfl, ?ylgr1⟩) hk ?rlgr1
  case ylgr1 => (intro w hSw; (try dsimp only at hSw); go_simp; first | done | with_reducible rfl)
  simp only [Act.put, List.setIfInBounds_toArray, List.set_cons_zero, List.set_cons_succ]
  refine wpAnyH_take (i := 2) (oi := { dst := some 44, op := Op.move (Operand.tmp 0), type := 29, pos := "law.go:51", after := #[], guard := none }) (v := ?vlgr2) rfl (by kernel_rfl) (by kernel_rfl) (by kernel_rfl) (fun _ _ _ h => h) (Or.inl ⟨by rfl, ?ylgr2⟩) hk ?rlgr2
  case ylgr2 => (intro w hSw; (try dsimp only at hSw); go_simp; first | done | with_reducible rfl)
  simp only [Act.put, List.setIfInBounds_toArray, List.set_cons_zero, List.set_cons_succ]
  refine wpAnyH_take (i := 3) (oi := { dst := some 45, op := Op.move (Operand.tmp 1), type := 3, pos := "law.go:51", after := #[], guard := none }) (v := ?vlgr3) rfl (by kernel_rfl) (by kernel_rfl) (by kernel_rfl) (fun _ _ _ h => h) (Or.inl ⟨by rfl, ?ylgr3⟩) hk ?rlgr3
  case ylgr3 => (intro w hSw; (try dsimp only at hSw); go_simp; first | done | with_reducible rfl)
  simp only [Act.put, List.setIfInBounds_toArray, List.set_cons_zero, List.set_cons_succ]
  refine wpAnyH_take (i := 4) (oi := { dst := some 46, op := Op.load 42 (Operand.tmp 7), type := 42, pos := "law.go:51", after := #[], guard := none }) (v := .agg (bv old).toArray) rfl (by kernel_rfl) (by kernel_rfl) (by kernel_rfl) (fun _ _ _ h => h) (yieldsIf_load_mid (by rfl) 42 (.tmp 7) rfl N 0 rfl (bv old) _ (fun W h => range_row h.vo) Tryd.underlying42 rfl hdO) hk ?_
  simp only [Act.put, List.setIfInBounds_toArray, List.set_cons_zero, List.set_cons_succ]
  refine wpAnyH_take (i := 5) (oi := { dst := some 47, op := Op.move (Operand.tmp 3), type := 30, pos := "law.go:51", after := #[], guard := none }) (v := ?vlgr4) rfl (by kernel_rfl) (by kernel_rfl) (by kernel_rfl) (fun _ _ _ h => h) (Or.inl ⟨by rfl, ?ylgr4⟩) hk ?rlgr4
  case ylgr4 => (intro w hSw; (try dsimp only at hSw); go_simp; first | done | with_reducible rfl)
  simp only [Act.put, List.setIfInBounds_toArray, List.set_cons_zero, List.set_cons_succ]
  refine wpAnyH_take (i := 6) (oi := { dst := some 48, op := Op.move (Operand.tmp 4), type := 3, pos := "law.go:51", after := #[], guard := none }) (v := ?vlgr5) rfl (by kernel_rfl) (by kernel_rfl) (by kernel_rfl) (fun _ _ _ h => h) (Or.inl ⟨by rfl, ?ylgr5⟩) hk ?rlgr5
  case ylgr5 => (intro w hSw; (try dsimp only at hSw); go_simp; first | done | with_reducible rfl)
  simp only [Act.put, List.setIfInBounds_toArray, List.set_cons_zero, List.set_cons_succ]
  refine wpAnyH_take (i := 8) (oi := { dst := some 50, op := Op.move (Operand.tmp 4), type := 3, pos := "law.go:51", after := #[], guard := none }) (v := ?vlgr6) rfl (by kernel_rfl) (by kernel_rfl) (by kernel_rfl) (fun _ _ _ h => h) (Or.inl ⟨by rfl, ?ylgr6⟩) hk ?rlgr6
  case ylgr6 => (intro w hSw; (try dsimp only at hSw); go_simp; first | done | with_reducible rfl)
  simp only [Act.put, List.setIfInBounds_toArray, List.set_cons_zero, List.set_cons_succ]
  refine wpAnyH_ready (rs := [7]) (by decide +kernel) (by simp) ?_
  refine AllReadyH.cons (o := { dst := some 49, op := Op.call { callee := Callee.value (Operand.func 22), args := #[Operand.tmp 44, Operand.tmp 45, Operand.tmp 46, Operand.tmp 47, Operand.tmp 48], argTypes := #[29, 3, 42, 30, 3] }, type := 4, pos := "law.go:51", after := #[{ on := 2, ground := Ground.data }, { on := 3, ground := Ground.data }, { on := 4, ground := Ground.data }, { on := 5, ground := Ground.data }, { on := 6, ground := Ground.data }], guard := none }) rfl (fun K hK => ?_) AllReadyH.nil
  go_simp
  refine (HRP.out _ hk).mono ?_
  rintro e1 wk ⟨rfl, hb1⟩
  replace hk := hk.step hb1
  clear hb1
  refine hK.out _ _ hk (fun _ => ?_)
  clear hK K
  try simp only [Act.put, List.setIfInBounds_toArray, List.set_cons_zero, List.set_cons_succ]
  refine wpAnyH_ready (rs := [9]) (by decide +kernel) (by simp) ?_
  refine AllReadyH.cons (o := { dst := some 51, op := Op.call { callee := Callee.value (Operand.func 19), args := #[Operand.tmp 42, Operand.tmp 43, Operand.tmp 49, Operand.tmp 50], argTypes := #[25, 4, 4, 3] }, type := 4, pos := "law.go:51", after := #[{ on := 0, ground := Ground.data }, { on := 1, ground := Ground.data }, { on := 7, ground := Ground.data }, { on := 8, ground := Ground.data }, { on := 7, ground := Ground.chain }], guard := none }) rfl (fun K hK => ?_) AllReadyH.nil
  go_simp
  refine (HFO.out _ hk).mono ?_
  rintro e1 wk ⟨rfl, hb1⟩
  replace hk := hk.step hb1
  clear hb1
  refine hK.out _ _ hk (fun _ => ?_)
  clear hK K
  try simp only [Act.put, List.setIfInBounds_toArray, List.set_cons_zero, List.set_cons_succ]
  refine wpAnyH_take (i := 10) (oi := { dst := some 52, op := Op.move (Operand.tmp 51), type := 4, pos := "law.go:51", after := #[{ on := 9, ground := Ground.data }, { on := 9, ground := Ground.chain }], guard := none }) (v := ?vlgr7) rfl (by kernel_rfl) (by kernel_rfl) (by kernel_rfl) (fun _ _ _ h => h) (Or.inl ⟨by rfl, ?ylgr7⟩) hk ?rlgr7
  case ylgr7 => (intro w hSw; (try dsimp only at hSw); go_simp; first | done | with_reducible rfl)
  simp only [Act.put, List.setIfInBounds_toArray, List.set_cons_zero, List.set_cons_succ]
  refine wpAnyH_ready (rs := [11]) (by decide +kernel) (by simp) ?_
  refine AllReadyH.cons (o := { dst := some 53, op := Op.call { callee := Callee.value (Operand.func 11), args := #[], argTypes := #[] }, type := 4, pos := "law.go:51", after := #[{ on := 10, ground := Ground.chain }, { on := 10, ground := Ground.guard }], guard := some (10, true) }) rfl (fun K hK => ?_) AllReadyH.nil
  go_simp
  refine (lives7_any _ (htab.below hk.low)).mono ?_
  rintro e1 wk ⟨rfl, hb1⟩
  replace hk := hk.step hb1
  clear hb1
  refine hK.out _ _ hk (fun _ => ?_)
  clear hK K
  try simp only [Act.put, List.setIfInBounds_toArray, List.set_cons_zero, List.set_cons_succ]
  refine wpAnyH_take (i := 12) (oi := { dst := some 54, op := Op.pick (Operand.tmp 52) (Operand.tmp 53) (Operand.const (Value.bool false)), type := 4, pos := "law.go:51", after := #[{ on := 10, ground := Ground.data }, { on := 11, ground := Ground.data }], guard := none }) (v := ?vlgr8) rfl (by kernel_rfl) (by kernel_rfl) (by kernel_rfl) (fun _ _ _ h => h) (Or.inl ⟨by rfl, ?ylgr8⟩) hk ?rlgr8
  case ylgr8 => (intro w hSw; (try dsimp only at hSw); go_simp; first | done | with_reducible rfl)
  simp only [Act.put, List.setIfInBounds_toArray, List.set_cons_zero, List.set_cons_succ]
  refine wpAnyH_take (i := 13) (oi := { dst := some 10, op := Op.assign (Operand.tmp 54), type := 4, pos := "law.go:51", after := #[{ on := 12, ground := Ground.data }, { on := 11, ground := Ground.chain }, { on := 0, ground := Ground.phase }, { on := 1, ground := Ground.phase }, { on := 2, ground := Ground.phase }, { on := 3, ground := Ground.phase }, { on := 4, ground := Ground.phase }, { on := 5, ground := Ground.phase }, { on := 6, ground := Ground.phase }, { on := 7, ground := Ground.phase }, { on := 8, ground := Ground.phase }, { on := 9, ground := Ground.phase }, { on := 10, ground := Ground.phase }, { on := 11, ground := Ground.phase }, { on := 12, ground := Ground.phase }], guard := none }) (v := ?vlgr9) rfl (by kernel_rfl) (by kernel_rfl) (by kernel_rfl) (fun _ _ _ h => h) (Or.inl ⟨by rfl, ?ylgr9⟩) hk ?rlgr9
  case ylgr9 => (intro w hSw; (try dsimp only at hSw); go_simp; first | done | with_reducible rfl)
  simp only [Act.put, List.setIfInBounds_toArray, List.set_cons_zero, List.set_cons_succ]
  refine wpAnyH_done (by decide +kernel) ?_ _
  have hlow := hk.low
  clear hk hdO
  go_wp2
  go_ret
  exact ⟨rfl, hlow⟩

set_option maxRecDepth 100000 in
/-- what the walk gives, for every argument and every world that holds the table -/
theorem contract (H : Type) (enc : TypeId × Value → H) (W : World) (base : Nat) (args : Array Value) (ds gs : List (DataW H)) (before : List MemPlace)
    (hval0 : ∀ (j : Nat) t v, Tryd.f5.params[j]? = some t → args[j]? = some v → Value.okWide Tryd.prog W .any base t v)
    (hW : DataW.Whole enc Tryd.prog Tryd.f5.params.toList Rows.clashGrowthsSpec.vars false W args.toList ds gs before) (hL : laidMetH Tryd.prog Rows.clashGrowthsRow.laid W) :
    Calls Tryd.prog 5 args W fun e W' => ∃ v, e = .returned v ∧ Rows.clashGrowthsSpec.post enc Tryd.prog Tryd.f5 false true false false W args v W' := by
  have htab := tab_of_laid hL
  have hval : ∀ (j : Nat) t v, Tryd.f5.params[j]? = some t → args[j]? = some v → Value.okWide Tryd.prog W .any base t v := hval0
  have hW' := hW
  obtain ⟨p, q, hA0, hV, rfl, hfz, hnd⟩ := hW
  have hA : DataW.TrodAll enc Tryd.prog W 0 (fun _ => true) true Tryd.f5.params.toList args.toList ds p := hA0
  rw [Tryd.params5] at hA hval
  obtain ⟨v0, vs0, d0, ds0, p0, q0, hargs, rfl, rfl, h0, r0⟩ := trodAll_cons hA
  obtain ⟨v1, vs1, d1, ds1, p1, q1, rfl, rfl, rfl, h1, r1⟩ := trodAll_cons r0
  obtain ⟨v2, vs2, d2, ds2, p2, q2, rfl, rfl, rfl, h2, r2⟩ := trodAll_cons r1
  obtain ⟨v3, vs3, d3, ds3, p3, q3, rfl, rfl, rfl, h3, r3⟩ := trodAll_cons r2
  obtain ⟨v4, vs4, d4, ds4, p4, q4, rfl, rfl, rfl, h4, r4⟩ := trodAll_cons r3
  obtain ⟨rfl, rfl, rfl⟩ := trodAll_nil r4
  obtain rfl : args = #[v0, v1, v2, v3, v4] := by cases args; simp_all
  obtain ⟨rfl, rfl⟩ := trodVars_none hV
  obtain ⟨a0, len0, cap0, rfl⟩ := okWide_slice Tryd.underlying29 (hval 0 29 v0 rfl rfl)
  obtain ⟨a3, len3, cap3, rfl⟩ := okWide_slice Tryd.underlying30 (hval 3 30 v3 rfl rfl)
  have k0 := h0
  have lt0 : ∀ x ∈ p0, x.block < W.heap.size := by obtain ⟨m, hm⟩ := k0; exact DataW.trod_lt m _ _ _ hm
  have k1 := h1
  have lt1 : ∀ x ∈ p1, x.block < W.heap.size := by obtain ⟨m, hm⟩ := k1; exact DataW.trod_lt m _ _ _ hm
  have k2 := h2
  have lt2 : ∀ x ∈ p2, x.block < W.heap.size := by obtain ⟨m, hm⟩ := k2; exact DataW.trod_lt m _ _ _ hm
  have k3 := h3
  have lt3 : ∀ x ∈ p3, x.block < W.heap.size := by obtain ⟨m, hm⟩ := k3; exact DataW.trod_lt m _ _ _ hm
  have k4 := h4
  have lt4 : ∀ x ∈ p4, x.block < W.heap.size := by obtain ⟨m, hm⟩ := k4; exact DataW.trod_lt m _ _ _ hm
  obtain ⟨T, hT⟩ := open_txs h0
  obtain ⟨m, rfl, hm⟩ := open_i64 (hval 1 3 v1 rfl rfl) h1
  obtain ⟨old, rfl, hold⟩ := open_dig (hval 2 42 v2 rfl rfl) h2
  obtain ⟨L, hL⟩ := open_dgs h3
  obtain ⟨x, rfl, hx⟩ := open_i64 (hval 4 3 v4 rfl rfl) h4
  clear hA0 hval0
  refine (walk a0 len0 cap0 T m old a3 len3 cap3 L x W hT hm hold hL hx htab).mono fun e W' ⟨he, bel⟩ => ?_
  subst he
  exact ⟨_, rfl, _, _, _, [], _, [], hW', trodAll_mk1 (shut_bool Tryd.underlying4 _), (trodAll_cons_mk (Below.trod laidOut (by kernel_rfl) (of_decide_eq_true (by kernel_rfl)) k0 bel lt0) (trodAll_cons_mk (Below.trod laidOut (by kernel_rfl) (of_decide_eq_true (by kernel_rfl)) k1 bel lt1) (trodAll_cons_mk (Below.trod laidOut (by kernel_rfl) (of_decide_eq_true (by kernel_rfl)) k2 bel lt2) (trodAll_cons_mk (Below.trod laidOut (by kernel_rfl) (of_decide_eq_true (by kernel_rfl)) k3 bel lt3) (trodAll_cons_mk (Below.trod laidOut (by kernel_rfl) (of_decide_eq_true (by kernel_rfl)) k4 bel lt4) trodAll_mk0))))), rfl, bel.frame _, fun h => by cases h⟩

set_option maxRecDepth 100000 in
theorem laid_met (os : Os) : laidMet Tryd.prog Rows.clashGrowthsRow.laid (({ World.holding Tryd.prog os ⟨#[], #[], []⟩ with heap := (World.holding Tryd.prog os ⟨#[], #[], []⟩).heap.setIfInBounds 0 (.cells (uv keyL).toArray 106) } : World).forCall (fun _ _ => 0) ⟨#[], #[.slice none 0 0, .int .i64 0, .agg (bv (List.replicate 32 0)).toArray, .slice none 0 0, .int .i64 0], []⟩).memory :=
  laidMet_of_run' 8 (by kernel_rfl) (by kernel_rfl)
set_option maxRecDepth 100000 in
theorem reads (os : Os) {H : Type} (enc : TypeId × Value → H) : ∃ places, DataW.whole enc Tryd.prog (({ World.holding Tryd.prog os ⟨#[], #[], []⟩ with heap := (World.holding Tryd.prog os ⟨#[], #[], []⟩).heap.setIfInBounds 0 (.cells (uv keyL).toArray 106) } : World).forCall (fun _ _ => 0) ⟨#[], #[.slice none 0 0, .int .i64 0, .agg (bv (List.replicate 32 0)).toArray, .slice none 0 0, .int .i64 0], []⟩).memory Tryd.f5.params.toList Rows.clashGrowthsSpec.vars false (#[.slice none 0 0, .int .i64 0, .agg (bv (List.replicate 32 0)).toArray, .slice none 0 0, .int .i64 0] : Array Value).toList 8 = some ([.nil, .lit (.int .i64 0), .agg (List.replicate 32 (.lit (.int .u8 0))), .nil, .lit (.int .i64 0)], [], places) :=
  ⟨[], by kernel_rfl⟩
set_option maxRecDepth 100000 in
theorem lifted (os : Os) (started : os.Started) (H : Type) (enc : TypeId × Value → H) (F : Stop.Interp) :
    ReturnsInHanded {} Tryd.checked os 5 .any ((OpenSpec.ofChange Rows.clashGrowthsSpec).preRow enc Tryd.prog Tryd.f5 Rows.clashGrowthsRow.domain false Rows.clashGrowthsRow.laid) (((OpenSpec.ofChange Rows.clashGrowthsSpec).at F).post enc Tryd.prog Tryd.f5 false true false false) := by
  obtain ⟨places, hx⟩ := reads os enc
  refine returnsInHanded_of_row (C := Tryd.checked) (s := OpenSpec.ofChange Rows.clashGrowthsSpec) own started (by kernel_rfl) Tryd.func5
    (witness_row_at (enc := enc) (C := Tryd.checked) false ({ World.holding Tryd.prog os ⟨#[], #[], []⟩ with heap := (World.holding Tryd.prog os ⟨#[], #[], []⟩).heap.setIfInBounds 0 (.cells (uv keyL).toArray 106) } : World) #[.slice none 0 0, .int .i64 0, .agg (bv (List.replicate 32 0)).toArray, .slice none 0 0, .int .i64 0] rfl (by kernel_rfl) (by kernel_rfl) (by kernel_rfl)
      (OpenSpec.preRow_of_cond 8 hx (by kernel_rfl) (fun k hk => by cases hk) (by kernel_rfl) (laid_met os))) ?_
  intro W base args ds gs before hval hW _ _ _ hL _ _
  exact contract H enc W base args ds gs before hval hW hL
theorem said : Rows.ClashGrowthsSaid :=
  OpenClaim.holds_of_cond 5 Tryd.f5 rfl rfl rfl rfl rfl rfl rfl ⟨rfl, rfl, rfl, rfl, rfl⟩ rfl rfl rfl rfl rfl (by kernel_rfl) Tryd.func5 (by kernel_rfl)
    (of_decide_eq_true (by kernel_rfl)) (by unfold Func.isWrapper; first | (rw [if_pos (by decide +kernel)]; kernel_rfl) | (rw [if_neg (by decide +kernel)]; exact ⟨rfl, rfl⟩))
    (fun os started H enc _ F => by rw [OpenClaim.pre_eq_preRow]; exact lifted os started H enc F)
theorem plain (f : FuncId) (fn : Func) (hf : Tryd.pinned.checked.prog.funcNamed "inquest/inquestlaw07.ClashGrowths" = some f) (hfn : Tryd.pinned.checked.prog.funcs[f]? = some fn) :
    false = Tryd.pinned.checked.prog.looks [] ∧ ∀ (j : Nat) t, fn.params[j]? = some t → Tryd.pinned.checked.prog.wantsStandIn t = false := by
  obtain rfl : f = 5 := Option.some.inj ((show Tryd.prog.funcNamed "inquest/inquestlaw07.ClashGrowths" = some 5 by kernel_rfl).symm.trans hf) |>.symm
  obtain rfl : fn = Tryd.f5 := (Option.some.inj (Tryd.func5.symm.trans hfn)).symm
  refine ⟨by kernel_rfl, fun j t ht => ?_⟩
  rw [Tryd.params5] at ht
  have hall : ([29, 3, 42, 30, 3].all fun u => !Tryd.prog.wantsStandIn u) = true := by kernel_rfl
  have hm : t ∈ [29, 3, 42, 30, 3] := by simpa using Array.mem_of_getElem? ht
  exact (show Tryd.prog.wantsStandIn t = false by simpa using List.all_eq_true.1 hall t hm)
/-- the tied card -/
theorem card : Rows.ClashGrowthsCardSaid :=
  Claim7.holds_tied_plain_at .later [] _ _ _ _ said (fun _ h => by cases h) (by kernel_rfl) (fun _ h => by cases h) clashGrowths_row_tie rfl ⟨rfl, rfl⟩ (by kernel_rfl) rfl plain (by kernel_rfl)
end Go.Proofs.YtfkloilbjfleeaaDoor.clashGrowths
namespace Go.Proofs.YtfkloilbjfleeaaDoor
theorem clashGrowths_holds : Rows.ClashGrowthsCardSaid := clashGrowths.card
#print axioms clashGrowths_holds
end Go.Proofs.YtfkloilbjfleeaaDoor
