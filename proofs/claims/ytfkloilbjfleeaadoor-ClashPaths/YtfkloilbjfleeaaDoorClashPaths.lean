/- For every list of slices of bytes, every slice of bytes, every list of digests and every two numbers the law ClashPaths returns true and the arguments read as they did (P7.2, P7.4): from each path that is taken for another text (up to 20 texts of up to 60 bytes, up to 70 digests) two texts of one sum are taken out, and from no other one. The package's table is as the program's text lays it (the card ties it). -/
import Derived.Test.YtfkloilbjfleeaaDoorDoor
import Derived.Test.YtfkloilbjfleeaaDoorLaw7
import Derived.Test.YtfkloilbjfleeaaDoorSma
import Derived.Test.YtfkloilbjfleeaaDoorDgsIn
import Derived.Test.YtfkloilbjfleeaaDoorTxsIn
import Derived.WalkKit
import Derived.ShutString
import Derived.ChangeOld
import Derived.Below
namespace Go.Proofs.YtfkloilbjfleeaaDoor.clashPaths
open Go.ChangeShapes Go.WideShapes Go.ChangeAt Go.RowKit
open Go.ChangeMaps (open_string shut_string)
set_option linter.unusedVariables false

theorem laidOut : laidOutB Tryd.prog = true := by kernel_rfl

/-- what stays while the law goes on: what was answered, and what was handed in -/
structure QP (V : Nat) (a b : Option Addr) (n m c d : Nat) (A B : List Int) (da : Option Addr) (dn dc : Nat) (TT : List (List Int)) (la : Option Addr) (ln lc : Nat) (lf : List Int) (pa : Option Addr) (pn pc : Nat) (P : List (List Int)) (w wr : World) : Prop where
  low : Below w.heap.size w wr
  vr : wr.heap[V]? = some (.cells #[.slice a n c, .slice b m d] 25 (0, 0))
  hA : Bts wr a n c A
  hB : Bts wr b m d B
  dat : Txs wr da dn dc TT
  lef : Bts wr la ln lc lf
  pth : Dgs wr pa pn pc P
theorem QP.step {V : Nat} {a b : Option Addr} {n m c d : Nat} {A B : List Int} {da : Option Addr} {dn dc : Nat} {TT : List (List Int)} {la : Option Addr} {ln lc : Nat} {lf : List Int} {pa : Option Addr} {pn pc : Nat} {P : List (List Int)} {w wr w1 : World} (h : QP V a b n m c d A B da dn dc TT la ln lc lf pa pn pc P w wr) (hb : Below wr.heap.size wr w1) : QP V a b n m c d A B da dn dc TT la ln lc lf pa pn pc P w w1 :=
  ⟨h.low.trans (hb.mono h.low.size), row_step h.vr hb, h.hA.below hb, h.hB.below hb, h.dat.below hb, h.lef.below hb, h.pth.below hb⟩
theorem QP.drewN {V : Nat} {a b : Option Addr} {n m c d : Nat} {A B : List Int} {da : Option Addr} {dn dc : Nat} {TT : List (List Int)} {la : Option Addr} {ln lc : Nat} {lf : List Int} {pa : Option Addr} {pn pc : Nat} {P : List (List Int)} {w wr : World} (h : QP V a b n m c d A B da dn dc TT la ln lc lf pa pn pc P w wr) (q : Nat) : QP V a b n m c d A B da dn dc TT la ln lc lf pa pn pc P w (wr.drewN q) :=
  ⟨below_drewN h.low q, h.vr, h.hA.drewN q, h.hB.drewN q, h.dat.drewN q, h.lef.drewN q, h.pth.drewN q⟩

set_option maxRecDepth 100000 in
set_option maxHeartbeats 1000000 in
theorem walk (a0 : Option Addr) (len0 cap0 : Nat) (T : List (List Int)) (i : Int) (a2 : Option Addr) (len2 cap2 : Nat) (l : List Int) (a3 : Option Addr) (len3 cap3 : Nat) (L : List (List Int)) (x : Int) (w : World) (hT : Txs w a0 len0 cap0 T) (hi : -9223372036854775808 ≤ i ∧ i ≤ 9223372036854775807) (hl : Bts w a2 len2 cap2 l) (hL : Dgs w a3 len3 cap3 L) (hx : -9223372036854775808 ≤ x ∧ x ≤ 9223372036854775807) (htab : Tab w) :
    Calls Tryd.prog 4 #[.slice a0 len0 cap0, .int .i64 i, .slice a2 len2 cap2, .slice a3 len3 cap3, .int .i64 x] w fun e w' => e = .returned (.bool true) ∧ Below w.heap.size w w' := by
  go_enter Tryd.func4, Tryd.ntmps4
  go_wp2_with fail
  refine (few7_any a0 len0 cap0 20 60 T _ hT (by decide) (by decide) (by decide)).mono ?_
  rintro e w1 ⟨da, dn, dc, rfl, hdn, hd1, hb1⟩
  have hl1 := hl.below hb1
  have hL1 := hL.below hb1
  have hfit := fewT_fit T 20 60
  have hagain := fewT_again T 20 60
  generalize fewT T 20 60 = TT at hd1 hfit hagain
  have HFIT : Bx (∀ t ∈ TT, t.length ≤ 100000) := ⟨fun t ht => Nat.le_trans (hfit t ht) (by decide)⟩
  have HAG : Bx (fewT TT 20 60 = TT) := ⟨hagain⟩
  clear hT hl hL hfit hagain
  go_wp2_with fail
  refine (cut_any a2 len2 cap2 60 l _ hl1 (by decide)).mono ?_
  rintro e w' ⟨⟨ln, rfl, hf1⟩, rfl⟩
  have hln : ln ≤ 60 := by have := hf1.len_eq; rw [List.length_take] at this; omega
  generalize l.take 60 = lf at hf1
  clear hl1
  go_wp2_with fail
  refine (few_any a3 len3 cap3 70 L _ hL1 (by decide)).mono ?_
  rintro e w2 ⟨pa, pn, pc, rfl, hpn, hp2, hb2⟩
  have hd2 := hd1.below hb2
  have hf2 := hf1.below hb2
  have hlow2 := bstep hb1 hb2
  have HPA : Bx ((L.take 70).take 70 = L.take 70) := ⟨by rw [List.take_take, Nat.min_self]⟩
  generalize L.take 70 = P at hp2 HPA
  clear hL1 hd1 hf1 hb1 hb2
  go_wp2_with fail
  refine (few7_any da dn dc 20 60 TT _ hd2 (by decide) (by decide) (by decide)).mono ?_
  rintro e w3 ⟨ea, en, ec, rfl, hen, he3, hb3⟩
  rw [HAG.out] at he3
  obtain rfl : en = dn := he3.len_eq.symm.trans hd2.len_eq
  have hd3 := hd2.below hb3
  have hf3 := hf2.below hb3
  have hp3 := hp2.below hb3
  have hlow3 := bstep hlow2 hb3
  clear hd2 hf2 hp2 hb3 hlow2 HAG hen
  go_wp2_with fail
  refine (copy_any a2 ln cap2 lf _ hf3 (by omega)).mono ?_
  rintro e w4 ⟨vb, rfl, hown4, hb4⟩
  obtain ⟨ba, bc, rfl, hg4⟩ := Bts.of_owns hown4 hf3.byt
  have hd4 := hd3.below hb4
  have he4 := he3.below hb4
  have hf4 := hf3.below hb4
  have hp4 := hp3.below hb4
  have hlow4 := bstep hlow3 hb4
  clear hd3 he3 hf3 hp3 hb4 hlow3 hown4
  go_wp2_with fail
  refine (few_any pa pn pc 70 P _ hp4 (by decide)).mono ?_
  rintro e w5 ⟨qa, qn, qc, rfl, hqn, hq5, hb5⟩
  rw [HPA.out] at hq5
  obtain rfl : qn = pn := hq5.len_eq.symm.trans hp4.len_eq
  have hd5 := hd4.below hb5
  have he5 := he4.below hb5
  have hf5 := hf4.below hb5
  have hg5 := hg4.below hb5
  have hp5 := hp4.below hb5
  have hlow5 := bstep hlow4 hb5
  clear hd4 he4 hf4 hg4 hp4 hb5 hlow4 HPA hqn
  go_wp2_with fail
  refine (cpath_any ea en ec TT i ba ln bc lf qa qn qc P x _ he5 HFIT.out (by omega) hg5 (by omega) hq5 (by omega) (htab.below hlow5)).mono ?_
  rintro e w6 ⟨hans, hb6⟩
  obtain ⟨a, n, c, b, m, d, A, B, rfl, hA, hB, hn, hm, h1, h2⟩ := cans_form hans
  have hd6 := hd5.below hb6
  have he6 := he5.below hb6
  have hf6 := hf5.below hb6
  have hg6 := hg5.below hb6
  have hp6 := hp5.below hb6
  have hq6 := hq5.below hb6
  have hlow6 := bstep hlow5 hb6
  clear hd5 he5 hf5 hg5 hp5 hq5 hb6 hlow5 hans
  have hb7 : Below w6.heap.size w6 (w6.alloc (.cells #[.slice a n c, .slice b m d] 25)) := (Below.refl _ _).alloc (Nat.le_refl _) _
  have hk7 : QP w6.heap.size a b n m c d A B da en dc TT a2 ln cap2 lf pa qn pc P w (w6.alloc (.cells #[.slice a n c, .slice b m d] 25)) := ⟨bstep hlow6 hb7, heap_alloc_new _ _, hA.below hb7, hB.below hb7, hd6.below hb7, hf6.below hb7, hp6.below hb7⟩
  have he7 := he6.below hb7
  have hg7 := hg6.below hb7
  have hq7 := hq6.below hb7
  have HMU : Bx _ := ⟨h1⟩
  have HMN : Bx _ := ⟨h2⟩
  have HRP : Bx (∀ W, QP w6.heap.size a b n m c d A B da en dc TT a2 ln cap2 lf pa qn pc P w W → Calls Tryd.prog 20 #[.slice da en dc, .int .i64 i, .slice a2 ln cap2, .slice pa qn pc, .int .i64 x] W fun e w' => e = .returned (.bool (mustP TT i lf P x)) ∧ Below W.heap.size W w') := ⟨fun W h => refpath7_any da en dc TT i a2 ln cap2 lf pa qn pc P x W h.dat HFIT.out (by omega) h.lef (by omega) h.pth (htab.below h.low)⟩
  generalize mustP TT i lf P x = must at HMU HMN HRP ⊢
  have HFO : Bx (∀ W, QP w6.heap.size a b n m c d A B da en dc TT a2 ln cap2 lf pa qn pc P w W → Calls Tryd.prog 19 #[.agg #[.slice a n c, .slice b m d], .bool must, .bool must, .int .i64 x] W fun e w' => e = .returned (.bool true) ∧ Below W.heap.size W w') := ⟨fun W h => found_any a b n m c d A B must x W h.hA h.hB hn hm HMU.out HMN.out (htab.below h.low)⟩
  have HK7 : Bx _ := ⟨hk7⟩
  have HE7 : Bx _ := ⟨he7⟩
  have HG7 : Bx _ := ⟨hg7⟩
  have HQ7 : Bx _ := ⟨hq7⟩
  clear hA hB h1 h2 hd6 he6 hf6 hg6 hp6 hq6 hlow6 hb7 hk7 he7 hg7 hq7 HMU HMN HFIT
  go_wp2_with fail
  have hk7 := HK7.out
  have he7 := HE7.out
  have hg7 := HG7.out
  have hq7 := HQ7.out
  clear HK7 HE7 HG7 HQ7
  generalize w6.alloc (.cells #[.slice a n c, .slice b m d] 25) = w7 at hk7 he7 hg7 hq7 ⊢
  generalize w6.heap.size = V at hk7 HRP HFO ⊢
  refine (tsame_yes ea da en ec dc TT _ he7 hk7.dat).mono ?_
  rintro e w8 ⟨rfl, q8, rfl⟩
  have hk8 := hk7.drewN q8
  have hg8 := hg7.drewN q8
  have hq8 := hq7.drewN q8
  generalize w7.drewN q8 = w8 at hk8 hg8 hq8 ⊢
  clear hk7 he7 hg7 hq7
  go_wp2_with fail
  refine (same_yes ba a2 ln ln bc cap2 lf _ hg8 hk8.lef).mono ?_
  rintro e w9 ⟨rfl, q9, rfl⟩
  have hk9 := hk8.drewN q9
  have hq9 := hq8.drewN q9
  generalize w8.drewN q9 = w9 at hk9 hq9 ⊢
  clear hk8 hg8 hq8
  go_wp2_with fail
  refine (dsame_yes qa pa qn qc pc P _ hq9 hk9.pth).mono ?_
  rintro e w10 ⟨rfl, q10, rfl⟩
  have hk10 := hk9.drewN q10
  generalize w9.drewN q10 = w10 at hk10 ⊢
  clear hk9 hq9
  go_wp2_with fail
  have hk : QP V a b n m c d A B da en dc TT a2 ln cap2 lf pa qn pc P w w10.drew := hk10.drewN 1
  clear hk10
  refine wp_region_held_drew (S := fun W => QP V a b n m c d A B da en dc TT a2 ln cap2 lf pa qn pc P w W) (by kernel_rfl) hk (fun _ => ?_)
  generalize w10.drew = wk at hk ⊢
  refine wpAnyH_take (i := 0) (oi := { dst := some 53, op := Op.load 25 (Operand.tmp 14), type := 25, pos := "law.go:40", after := #[], guard := none }) (v := .agg ([.slice a n c, .slice b m d]).toArray) rfl (by kernel_rfl) (by kernel_rfl) (by kernel_rfl) (fun _ _ _ h => h) (yieldsIf_load_mid (by rfl) 25 (.tmp 14) rfl V 0 rfl ([.slice a n c, .slice b m d]) _ (fun W h => range_row h.vr) Tryd.underlying25 rfl cls_info) hk ?_
  simp only [Act.put, List.setIfInBounds_toArray, List.set_cons_zero, List.set_cons_succ]
  refine wpAnyH_take (i := 1) (oi := { dst := some 54, op := Op.move (Operand.tmp 15), type := 4, pos := "law.go:40", after := #[], guard := none }) (v := ?vlpa1) rfl (by kernel_rfl) (by kernel_rfl) (by kernel_rfl) (fun _ _ _ h => h) (Or.inl ⟨by rfl, ?ylpa1⟩) hk ?rlpa1
  case ylpa1 => (intro w hSw; (try dsimp only at hSw); go_simp; first | done | with_reducible rfl)
  simp only [Act.put, List.setIfInBounds_toArray, List.set_cons_zero, List.set_cons_succ]
  refine wpAnyH_take (i := 2) (oi := { dst := some 55, op := Op.move (Operand.tmp 0), type := 29, pos := "law.go:40", after := #[], guard := none }) (v := ?vlpa2) rfl (by kernel_rfl) (by kernel_rfl) (by kernel_rfl) (fun _ _ _ h => h) (Or.inl ⟨by rfl, ?ylpa2⟩) hk ?rlpa2
  case ylpa2 => (intro w hSw; (try dsimp only at hSw); go_simp; first | done | with_reducible rfl)
  simp only [Act.put, List.setIfInBounds_toArray, List.set_cons_zero, List.set_cons_succ]
  refine wpAnyH_take (i := 3) (oi := { dst := some 56, op := Op.move (Operand.tmp 1), type := 3, pos := "law.go:40", after := #[], guard := none }) (v := ?vlpa3) rfl (by kernel_rfl) (by kernel_rfl) (by kernel_rfl) (fun _ _ _ h => h) (Or.inl ⟨by rfl, ?ylpa3⟩) hk ?rlpa3
  case ylpa3 => (intro w hSw; (try dsimp only at hSw); go_simp; first | done | with_reducible rfl)
  simp only [Act.put, List.setIfInBounds_toArray, List.set_cons_zero, List.set_cons_succ]
  refine wpAnyH_take (i := 4) (oi := { dst := some 57, op := Op.move (Operand.tmp 2), type := 22, pos := "law.go:40", after := #[], guard := none }) (v := ?vlpa4) rfl (by kernel_rfl) (by kernel_rfl) (by kernel_rfl) (fun _ _ _ h => h) (Or.inl ⟨by rfl, ?ylpa4⟩) hk ?rlpa4
  case ylpa4 => (intro w hSw; (try dsimp only at hSw); go_simp; first | done | with_reducible rfl)
  simp only [Act.put, List.setIfInBounds_toArray, List.set_cons_zero, List.set_cons_succ]
  refine wpAnyH_take (i := 5) (oi := { dst := some 58, op := Op.move (Operand.tmp 3), type := 30, pos := "law.go:40", after := #[], guard := none }) (v := ?vlpa5) rfl (by kernel_rfl) (by kernel_rfl) (by kernel_rfl) (fun _ _ _ h => h) (Or.inl ⟨by rfl, ?ylpa5⟩) hk ?rlpa5
  case ylpa5 => (intro w hSw; (try dsimp only at hSw); go_simp; first | done | with_reducible rfl)
  simp only [Act.put, List.setIfInBounds_toArray, List.set_cons_zero, List.set_cons_succ]
  refine wpAnyH_take (i := 6) (oi := { dst := some 59, op := Op.move (Operand.tmp 4), type := 3, pos := "law.go:40", after := #[], guard := none }) (v := ?vlpa6) rfl (by kernel_rfl) (by kernel_rfl) (by kernel_rfl) (fun _ _ _ h => h) (Or.inl ⟨by rfl, ?ylpa6⟩) hk ?rlpa6
  case ylpa6 => (intro w hSw; (try dsimp only at hSw); go_simp; first | done | with_reducible rfl)
  simp only [Act.put, List.setIfInBounds_toArray, List.set_cons_zero, List.set_cons_succ]
  refine wpAnyH_take (i := 8) (oi := { dst := some 61, op := Op.move (Operand.tmp 4), type := 3, pos := "law.go:40", after := #[], guard := none }) (v := ?vlpa7) rfl (by kernel_rfl) (by kernel_rfl) (by kernel_rfl) (fun _ _ _ h => h) (Or.inl ⟨by rfl, ?ylpa7⟩) hk ?rlpa7
  case ylpa7 => (intro w hSw; (try dsimp only at hSw); go_simp; first | done | with_reducible rfl)
  simp only [Act.put, List.setIfInBounds_toArray, List.set_cons_zero, List.set_cons_succ]
  refine wpAnyH_ready (rs := [7]) (by decide +kernel) (by simp) ?_
  refine AllReadyH.cons (o := { dst := some 60, op := Op.call { callee := Callee.value (Operand.func 20), args := #[Operand.tmp 55, Operand.tmp 56, Operand.tmp 57, Operand.tmp 58, Operand.tmp 59], argTypes := #[29, 3, 22, 30, 3] }, type := 4, pos := "law.go:40", after := #[{ on := 2, ground := Ground.data }, { on := 3, ground := Ground.data }, { on := 4, ground := Ground.data }, { on := 5, ground := Ground.data }, { on := 6, ground := Ground.data }], guard := none }) rfl (fun K hK => ?_) AllReadyH.nil
  go_simp
  refine (HRP.out _ hk).mono ?_
  rintro e1 wk ⟨rfl, hb1⟩
  replace hk := hk.step hb1
  clear hb1
  refine hK.out _ _ hk (fun _ => ?_)
  clear hK K
  try simp only [Act.put, List.setIfInBounds_toArray, List.set_cons_zero, List.set_cons_succ]
  refine wpAnyH_ready (rs := [9]) (by decide +kernel) (by simp) ?_
  refine AllReadyH.cons (o := { dst := some 62, op := Op.call { callee := Callee.value (Operand.func 19), args := #[Operand.tmp 53, Operand.tmp 54, Operand.tmp 60, Operand.tmp 61], argTypes := #[25, 4, 4, 3] }, type := 4, pos := "law.go:40", after := #[{ on := 0, ground := Ground.data }, { on := 1, ground := Ground.data }, { on := 7, ground := Ground.data }, { on := 8, ground := Ground.data }, { on := 7, ground := Ground.chain }], guard := none }) rfl (fun K hK => ?_) AllReadyH.nil
  go_simp
  refine (HFO.out _ hk).mono ?_
  rintro e1 wk ⟨rfl, hb1⟩
  replace hk := hk.step hb1
  clear hb1
  refine hK.out _ _ hk (fun _ => ?_)
  clear hK K
  try simp only [Act.put, List.setIfInBounds_toArray, List.set_cons_zero, List.set_cons_succ]
  refine wpAnyH_take (i := 10) (oi := { dst := some 63, op := Op.move (Operand.tmp 62), type := 4, pos := "law.go:40", after := #[{ on := 9, ground := Ground.data }, { on := 9, ground := Ground.chain }], guard := none }) (v := ?vlpa8) rfl (by kernel_rfl) (by kernel_rfl) (by kernel_rfl) (fun _ _ _ h => h) (Or.inl ⟨by rfl, ?ylpa8⟩) hk ?rlpa8
  case ylpa8 => (intro w hSw; (try dsimp only at hSw); go_simp; first | done | with_reducible rfl)
  simp only [Act.put, List.setIfInBounds_toArray, List.set_cons_zero, List.set_cons_succ]
  refine wpAnyH_ready (rs := [11]) (by decide +kernel) (by simp) ?_
  refine AllReadyH.cons (o := { dst := some 64, op := Op.call { callee := Callee.value (Operand.func 11), args := #[], argTypes := #[] }, type := 4, pos := "law.go:40", after := #[{ on := 10, ground := Ground.chain }, { on := 10, ground := Ground.guard }], guard := some (10, true) }) rfl (fun K hK => ?_) AllReadyH.nil
  go_simp
  refine (lives7_any _ (htab.below hk.low)).mono ?_
  rintro e1 wk ⟨rfl, hb1⟩
  replace hk := hk.step hb1
  clear hb1
  refine hK.out _ _ hk (fun _ => ?_)
  clear hK K
  try simp only [Act.put, List.setIfInBounds_toArray, List.set_cons_zero, List.set_cons_succ]
  refine wpAnyH_take (i := 12) (oi := { dst := some 65, op := Op.pick (Operand.tmp 63) (Operand.tmp 64) (Operand.const (Value.bool false)), type := 4, pos := "law.go:40", after := #[{ on := 10, ground := Ground.data }, { on := 11, ground := Ground.data }], guard := none }) (v := ?vlpa9) rfl (by kernel_rfl) (by kernel_rfl) (by kernel_rfl) (fun _ _ _ h => h) (Or.inl ⟨by rfl, ?ylpa9⟩) hk ?rlpa9
  case ylpa9 => (intro w hSw; (try dsimp only at hSw); go_simp; first | done | with_reducible rfl)
  simp only [Act.put, List.setIfInBounds_toArray, List.set_cons_zero, List.set_cons_succ]
  refine wpAnyH_take (i := 13) (oi := { dst := some 10, op := Op.assign (Operand.tmp 65), type := 4, pos := "law.go:40", after := #[{ on := 12, ground := Ground.data }, { on := 11, ground := Ground.chain }, { on := 0, ground := Ground.phase }, { on := 1, ground := Ground.phase }, { on := 2, ground := Ground.phase }, { on := 3, ground := Ground.phase }, { on := 4, ground := Ground.phase }, { on := 5, ground := Ground.phase }, { on := 6, ground := Ground.phase }, { on := 7, ground := Ground.phase }, { on := 8, ground := Ground.phase }, { on := 9, ground := Ground.phase }, { on := 10, ground := Ground.phase }, { on := 11, ground := Ground.phase }, { on := 12, ground := Ground.phase }], guard := none }) (v := ?vlpa10) rfl (by kernel_rfl) (by kernel_rfl) (by kernel_rfl) (fun _ _ _ h => h) (Or.inl ⟨by rfl, ?ylpa10⟩) hk ?rlpa10
  case ylpa10 => (intro w hSw; (try dsimp only at hSw); go_simp; first | done | with_reducible rfl)
  simp only [Act.put, List.setIfInBounds_toArray, List.set_cons_zero, List.set_cons_succ]
  refine wpAnyH_done (by decide +kernel) ?_ _
  have hlow := hk.low
  clear hk
  go_wp2
  go_ret
  exact ⟨rfl, hlow⟩

set_option maxRecDepth 100000 in
/-- what the walk gives, for every argument and every world that holds the table -/
theorem contract (H : Type) (enc : TypeId × Value → H) (W : World) (base : Nat) (args : Array Value) (ds gs : List (DataW H)) (before : List MemPlace)
    (hval0 : ∀ (j : Nat) t v, Tryd.f4.params[j]? = some t → args[j]? = some v → Value.okWide Tryd.prog W .any base t v)
    (hW : DataW.Whole enc Tryd.prog Tryd.f4.params.toList Rows.clashPathsSpec.vars false W args.toList ds gs before) (hL : laidMetH Tryd.prog Rows.clashPathsRow.laid W) :
    Calls Tryd.prog 4 args W fun e W' => ∃ v, e = .returned v ∧ Rows.clashPathsSpec.post enc Tryd.prog Tryd.f4 false true false false W args v W' := by
  have htab := tab_of_laid hL
  have hval : ∀ (j : Nat) t v, Tryd.f4.params[j]? = some t → args[j]? = some v → Value.okWide Tryd.prog W .any base t v := hval0
  have hW' := hW
  obtain ⟨p, q, hA0, hV, rfl, hfz, hnd⟩ := hW
  have hA : DataW.TrodAll enc Tryd.prog W 0 (fun _ => true) true Tryd.f4.params.toList args.toList ds p := hA0
  rw [Tryd.params4] at hA hval
  obtain ⟨v0, vs0, d0, ds0, p0, q0, hargs, rfl, rfl, h0, r0⟩ := trodAll_cons hA
  obtain ⟨v1, vs1, d1, ds1, p1, q1, rfl, rfl, rfl, h1, r1⟩ := trodAll_cons r0
  obtain ⟨v2, vs2, d2, ds2, p2, q2, rfl, rfl, rfl, h2, r2⟩ := trodAll_cons r1
  obtain ⟨v3, vs3, d3, ds3, p3, q3, rfl, rfl, rfl, h3, r3⟩ := trodAll_cons r2
  obtain ⟨v4, vs4, d4, ds4, p4, q4, rfl, rfl, rfl, h4, r4⟩ := trodAll_cons r3
  obtain ⟨rfl, rfl, rfl⟩ := trodAll_nil r4
  obtain rfl : args = #[v0, v1, v2, v3, v4] := by cases args; simp_all
  obtain ⟨rfl, rfl⟩ := trodVars_none hV
  obtain ⟨a0, len0, cap0, rfl⟩ := okWide_slice Tryd.underlying29 (hval 0 29 v0 rfl rfl)
  obtain ⟨a2, len2, cap2, rfl⟩ := okWide_slice Tryd.underlying22 (hval 2 22 v2 rfl rfl)
  obtain ⟨a3, len3, cap3, rfl⟩ := okWide_slice Tryd.underlying30 (hval 3 30 v3 rfl rfl)
  have k0 := h0
  have lt0 : ∀ x ∈ p0, x.block < W.heap.size := by obtain ⟨m, hm⟩ := k0; exact DataW.trod_lt m _ _ _ hm
  have k1 := h1
  have lt1 : ∀ x ∈ p1, x.block < W.heap.size := by obtain ⟨m, hm⟩ := k1; exact DataW.trod_lt m _ _ _ hm
  have k2 := h2
  have lt2 : ∀ x ∈ p2, x.block < W.heap.size := by obtain ⟨m, hm⟩ := k2; exact DataW.trod_lt m _ _ _ hm
  have k3 := h3
  have lt3 : ∀ x ∈ p3, x.block < W.heap.size := by obtain ⟨m, hm⟩ := k3; exact DataW.trod_lt m _ _ _ hm
  have k4 := h4
  have lt4 : ∀ x ∈ p4, x.block < W.heap.size := by obtain ⟨m, hm⟩ := k4; exact DataW.trod_lt m _ _ _ hm
  obtain ⟨T, hT⟩ := open_txs h0
  obtain ⟨i, rfl, hi⟩ := open_i64 (hval 1 3 v1 rfl rfl) h1
  obtain ⟨l, hl⟩ := open_bytes h2
  obtain ⟨L, hL⟩ := open_dgs h3
  obtain ⟨x, rfl, hx⟩ := open_i64 (hval 4 3 v4 rfl rfl) h4
  clear hA0 hval0
  refine (walk a0 len0 cap0 T i a2 len2 cap2 l a3 len3 cap3 L x W hT hi hl hL hx htab).mono fun e W' ⟨he, bel⟩ => ?_
  subst he
  exact ⟨_, rfl, _, _, _, [], _, [], hW', trodAll_mk1 (shut_bool Tryd.underlying4 _), (trodAll_cons_mk (Below.trod laidOut (by kernel_rfl) (of_decide_eq_true (by kernel_rfl)) k0 bel lt0) (trodAll_cons_mk (Below.trod laidOut (by kernel_rfl) (of_decide_eq_true (by kernel_rfl)) k1 bel lt1) (trodAll_cons_mk (Below.trod laidOut (by kernel_rfl) (of_decide_eq_true (by kernel_rfl)) k2 bel lt2) (trodAll_cons_mk (Below.trod laidOut (by kernel_rfl) (of_decide_eq_true (by kernel_rfl)) k3 bel lt3) (trodAll_cons_mk (Below.trod laidOut (by kernel_rfl) (of_decide_eq_true (by kernel_rfl)) k4 bel lt4) trodAll_mk0))))), rfl, bel.frame _, fun h => by cases h⟩

set_option maxRecDepth 100000 in
theorem laid_met (os : Os) : laidMet Tryd.prog Rows.clashPathsRow.laid (({ World.holding Tryd.prog os ⟨#[], #[], []⟩ with heap := (World.holding Tryd.prog os ⟨#[], #[], []⟩).heap.setIfInBounds 0 (.cells (uv keyL).toArray 106) } : World).forCall (fun _ _ => 0) ⟨#[], #[.slice none 0 0, .int .i64 0, .slice none 0 0, .slice none 0 0, .int .i64 0], []⟩).memory :=
  laidMet_of_run' 8 (by kernel_rfl) (by kernel_rfl)
set_option maxRecDepth 100000 in
theorem reads (os : Os) {H : Type} (enc : TypeId × Value → H) : ∃ places, DataW.whole enc Tryd.prog (({ World.holding Tryd.prog os ⟨#[], #[], []⟩ with heap := (World.holding Tryd.prog os ⟨#[], #[], []⟩).heap.setIfInBounds 0 (.cells (uv keyL).toArray 106) } : World).forCall (fun _ _ => 0) ⟨#[], #[.slice none 0 0, .int .i64 0, .slice none 0 0, .slice none 0 0, .int .i64 0], []⟩).memory Tryd.f4.params.toList Rows.clashPathsSpec.vars false (#[.slice none 0 0, .int .i64 0, .slice none 0 0, .slice none 0 0, .int .i64 0] : Array Value).toList 8 = some ([.nil, .lit (.int .i64 0), .nil, .nil, .lit (.int .i64 0)], [], places) :=
  ⟨[], by kernel_rfl⟩
set_option maxRecDepth 100000 in
theorem lifted (os : Os) (started : os.Started) (H : Type) (enc : TypeId × Value → H) (F : Stop.Interp) :
    ReturnsInHanded {} Tryd.checked os 4 .any ((OpenSpec.ofChange Rows.clashPathsSpec).preRow enc Tryd.prog Tryd.f4 Rows.clashPathsRow.domain false Rows.clashPathsRow.laid) (((OpenSpec.ofChange Rows.clashPathsSpec).at F).post enc Tryd.prog Tryd.f4 false true false false) := by
  obtain ⟨places, hx⟩ := reads os enc
  refine returnsInHanded_of_row (C := Tryd.checked) (s := OpenSpec.ofChange Rows.clashPathsSpec) own started (by kernel_rfl) Tryd.func4
    (witness_row_at (enc := enc) (C := Tryd.checked) false ({ World.holding Tryd.prog os ⟨#[], #[], []⟩ with heap := (World.holding Tryd.prog os ⟨#[], #[], []⟩).heap.setIfInBounds 0 (.cells (uv keyL).toArray 106) } : World) #[.slice none 0 0, .int .i64 0, .slice none 0 0, .slice none 0 0, .int .i64 0] rfl (by kernel_rfl) (by kernel_rfl) (by kernel_rfl)
      (OpenSpec.preRow_of_cond 8 hx (by kernel_rfl) (fun k hk => by cases hk) (by kernel_rfl) (laid_met os))) ?_
  intro W base args ds gs before hval hW _ _ _ hL _ _
  exact contract H enc W base args ds gs before hval hW hL
theorem said : Rows.ClashPathsSaid :=
  OpenClaim.holds_of_cond 4 Tryd.f4 rfl rfl rfl rfl rfl rfl rfl ⟨rfl, rfl, rfl, rfl, rfl⟩ rfl rfl rfl rfl rfl (by kernel_rfl) Tryd.func4 (by kernel_rfl)
    (of_decide_eq_true (by kernel_rfl)) (by unfold Func.isWrapper; first | (rw [if_pos (by decide +kernel)]; kernel_rfl) | (rw [if_neg (by decide +kernel)]; exact ⟨rfl, rfl⟩))
    (fun os started H enc _ F => by rw [OpenClaim.pre_eq_preRow]; exact lifted os started H enc F)
theorem plain (f : FuncId) (fn : Func) (hf : Tryd.pinned.checked.prog.funcNamed "inquest/inquestlaw07.ClashPaths" = some f) (hfn : Tryd.pinned.checked.prog.funcs[f]? = some fn) :
    false = Tryd.pinned.checked.prog.looks [] ∧ ∀ (j : Nat) t, fn.params[j]? = some t → Tryd.pinned.checked.prog.wantsStandIn t = false := by
  obtain rfl : f = 4 := Option.some.inj ((show Tryd.prog.funcNamed "inquest/inquestlaw07.ClashPaths" = some 4 by kernel_rfl).symm.trans hf) |>.symm
  obtain rfl : fn = Tryd.f4 := (Option.some.inj (Tryd.func4.symm.trans hfn)).symm
  refine ⟨by kernel_rfl, fun j t ht => ?_⟩
  rw [Tryd.params4] at ht
  have hall : ([29, 3, 22, 30, 3].all fun u => !Tryd.prog.wantsStandIn u) = true := by kernel_rfl
  have hm : t ∈ [29, 3, 22, 30, 3] := by simpa using Array.mem_of_getElem? ht
  exact (show Tryd.prog.wantsStandIn t = false by simpa using List.all_eq_true.1 hall t hm)
/-- the tied card -/
theorem card : Rows.ClashPathsCardSaid :=
  Claim7.holds_tied_plain_at .later [] _ _ _ _ said (fun _ h => by cases h) (by kernel_rfl) (fun _ h => by cases h) clashPaths_row_tie rfl ⟨rfl, rfl⟩ (by kernel_rfl) rfl plain (by kernel_rfl)
end Go.Proofs.YtfkloilbjfleeaaDoor.clashPaths
namespace Go.Proofs.YtfkloilbjfleeaaDoor
theorem clashPaths_holds : Rows.ClashPathsCardSaid := clashPaths.card
#print axioms clashPaths_holds
end Go.Proofs.YtfkloilbjfleeaaDoor
