/- EntryLines: how any verdict is written in words. The library's tables are as the program's text lays them (the card ties them). -/
import Derived.Test.YtlodbkjjkhpbaaaDoorTDoor
import Derived.LaidMore
import Derived.Test.YtlodbkjjkhpbaaaDoorEnIn
import Derived.Test.YtlodbkjjkhpbaaaDoorEnLine3
import Derived.WalkKit
import Derived.ShutString
import Derived.ChangeOld
import Derived.Below
namespace Go.Proofs.YtlodbkjjkhpbaaaDoor.entryLines
open Go.ChangeShapes Go.WideShapes Go.ChangeAt Go.RowKit
open Go.ChangeMaps (open_string shut_string)
set_option linter.unusedVariables false

theorem laidOut : laidOutB Tryd.prog = true := by kernel_rfl

theorem iv_of {w : World} {base n c : Nat} {a : Option Addr} {L : List Int} (h : w.ownsRow base 3 1 (.slice a n c) n (L.flatMap ivC)) : Ivs w a n c L := by
  obtain ⟨ai, ci, e, hIV⟩ := Ls.of_owns ivC_len h (by have := h.1; rw [iv_map, List.length_map] at this; omega)
  cases e
  exact hIV

set_option maxRecDepth 100000 in
set_option maxHeartbeats 1000000 in
theorem walk (e : En) (ea0 : Option Addr) (el0 ec0 : Nat) (kd : Int) (w : World) (he : EnI w e ea0 el0 ec0) (hkd : I64 kd) (hL : laidMetH Tryd.prog Rows.entryLinesRow.laid w) (hsh : w.ShapedOpen Tryd.prog) :
    Calls Tryd.prog 3 #[.agg (enA e ea0 el0 ec0), .int .i64 kd] w fun e w' => e = .returned (.bool true) ∧ Below w.heap.size w w' := by
  have HT := Bx.mk (tens_of_third (plainH hL (by kernel_rfl)))
  clear hL hsh
  have hb0 : Below w.heap.size w (w.alloc (.cells (enA e ea0 el0 ec0) 28)) := (Below.refl _ _).alloc (Nat.le_refl _) _
  have hr0 := EnB.new (a := ea0) (n := el0) (c := ec0) w he.dig
  have HB0 := Bx.mk hb0
  have HR0 := Bx.mk hr0
  have HI0 := Bx.mk (he.iv.below hb0)
  have HD0 := Bx.mk he.dig
  have HOK0 := Bx.mk he.o
  have HRB : Bx (V64 (cutE e).r) := ⟨he.r⟩
  have HOK : Bx (IvK (cutE e).o) := ⟨he.o.take 70⟩
  obtain ⟨g2, HG2⟩ : ∃ g2, Bx (g2 = w.heap.size) := ⟨_, ⟨rfl⟩⟩
  rw [← HG2.out] at HR0
  clear hb0 hr0 he hkd
  go_enter Tryd.func3, Tryd.ntmps3
  go_upto_region 1 with fail
  rw [← HG2.out]
  generalize w.alloc (.cells (enA e ea0 el0 ec0) 28) = wa at HB0 HR0 HI0 ⊢
  go_wp2_with (refine wpList_load_en rfl (.tmp 2) rfl rfl HR0.out ?_)
  refine (cut20_any e ea0 el0 ec0 _ HI0.out HD0.out).mono ?_
  rintro x w1 ⟨a2, n2, c2, rfl, ho1, hb1⟩
  have HR1 := Bx.mk (HR0.out.below hb1)
  have HI1 := Bx.mk (iv_of ho1)
  have HB1 := Bx.mk (bstep HB0.out hb1)
  have HGO : Bx (∀ p, a2 = some p → g2 < p.block) := ⟨fun p e => by subst e; have h1 := (ho1.lt p.block rfl).1; have h2 := HR0.out.lt; omega⟩
  have hn70 : n2 ≤ 100 := by have h1 := HI1.out.len_eq; unfold cutE at h1; simp only [List.length_take] at h1; omega
  have HD1 : Bx (EnD (cutE e)) := ⟨HD0.out⟩
  have HTH : Bx (w1.there g2 0 (enA (cutE e) a2 n2 c2).size) := ⟨(HR1.out.nv (N0 := 0) (Nat.zero_le _)).en_there HD1.out⟩
  have HR2 : Bx (EnB (w1.setCells g2 0 (enA (cutE e) a2 n2 c2).toList) g2 (cutE e) a2 n2 c2) := ⟨(HR1.out.nv (N0 := 0) (Nat.zero_le _)).en HD1.out⟩
  have HB2 : Bx (Below w.heap.size w (w1.setCells g2 0 (enA (cutE e) a2 n2 c2).toList)) := ⟨below_setCells HB1.out g2 (by rw [HG2.out]; exact Nat.le_refl _) _ _⟩
  have HI2 : Bx (Ivs (w1.setCells g2 0 (enA (cutE e) a2 n2 c2).toList) a2 n2 c2 (cutE e).o) := ⟨HI1.out.keep (fun p e _ => setCells_other (by have := HGO.out p e; omega) _ _) (by rw [setCells_size]; exact Nat.le_refl _)⟩
  clear ho1 hb1 HR0 HI0 HB0 HR1 HI1 HB1 HGO
  go_upto_region 2 with (refine wpList_store_mid rfl 28 (.tmp 2) (.tmp 6) rfl g2 0 (enA (cutE e) a2 n2 c2) rfl rfl HTH.out (enA_info HD1.out) enA_one ?_)
  generalize w1.setCells g2 0 (enA (cutE e) a2 n2 c2).toList = w3 at HTH HR2 HB2 HI2 ⊢
  generalize cutE e = E at HTH HR2 HI2 HD1 HRB HOK ⊢
  have HT2 := Bx.mk (HT.out.below HB2.out)
  obtain ⟨LS, HLS⟩ : ∃ LS, Bx (lineS E.k E.r E.o = LS) := ⟨_, ⟨rfl⟩⟩
  obtain ⟨WS, HWS⟩ : ∃ WS, Bx (wordS kd = WS) := ⟨_, ⟨rfl⟩⟩
  obtain ⟨Qq, HQE⟩ : ∃ Qq : World → Prop, Bx (Qq = fun W => EnB W g2 E a2 n2 c2 ∧ Ivs W a2 n2 c2 E.o ∧ Tens W) := ⟨_, ⟨rfl⟩⟩
  have HQQ : Bx (∀ W, Qq W → EnB W g2 E a2 n2 c2 ∧ Ivs W a2 n2 c2 E.o ∧ Tens W) := ⟨fun W h => by rw [HQE.out] at h; exact h⟩
  have hk0 : HX Qq w w3 := ⟨HB2.out, by rw [HQE.out]; exact fun W W' h hb => ⟨h.1.below hb, h.2.1.below hb, h.2.2.below hb⟩, by rw [HQE.out]; exact ⟨HR2.out, HI2.out, HT2.out⟩⟩
  have hk := hk0.step (W' := w3.drew) ⟨rfl, rfl, rfl, Nat.le_refl _, fun _ _ => rfl⟩
  clear hk0 HQE HR2 HI2 HT2 HB2 HTH HT
  refine wp_region_held_drew (S := fun W => HX Qq w W) (by kernel_rfl) hk (fun _ => ?_)
  generalize w3.drew = wk at hk ⊢
  refine wpAnyH_take (i := 0) (oi := { dst := some 7, op := Op.fieldAddr 28 (Operand.tmp 2) 4, type := 0, pos := "law.go:37", after := #[], guard := none }) (v := ?veli21) rfl (by kernel_rfl) (by kernel_rfl) (by kernel_rfl) (fun _ _ _ h => h) (Or.inl ⟨by rfl, ?yeli21⟩) hk ?reli21
  case yeli21 => (intro w hSw; (try dsimp only at hSw); go_simp; first | done | with_reducible rfl)
  simp only [Act.put, List.setIfInBounds_toArray, List.set_cons_zero, List.set_cons_succ]
  refine wpAnyH_take (i := 1) (oi := { dst := some 8, op := Op.load 26 (Operand.tmp 7), type := 26, pos := "law.go:37", after := #[{ on := 0, ground := Ground.data }], guard := none }) (v := .agg #[.int .i64 E.k, .slice a2 n2 c2, .int .i64 E.r]) rfl (by kernel_rfl) (by kernel_rfl) (by kernel_rfl) (fun _ _ _ h => h) (Or.inl ⟨by rfl, ?yeli22⟩) hk ?reli22
  case yeli22 => (intro w hSw; have h0 := (HQQ.out _ hSw.q).1.c66; have h1 := (HQQ.out _ hSw.q).1.c67; have h2 := (HQQ.out _ hSw.q).1.c68; clear hSw; go_simp; first | done | with_reducible rfl)
  simp only [Act.put, List.setIfInBounds_toArray, List.set_cons_zero, List.set_cons_succ]
  refine wpAnyH_take (i := 3) (oi := { dst := some 10, op := Op.fieldAddr 28 (Operand.tmp 2) 4, type := 0, pos := "law.go:37", after := #[], guard := none }) (v := ?veli23) rfl (by kernel_rfl) (by kernel_rfl) (by kernel_rfl) (fun _ _ _ h => h) (Or.inl ⟨by rfl, ?yeli23⟩) hk ?reli23
  case yeli23 => (intro w hSw; (try dsimp only at hSw); go_simp; first | done | with_reducible rfl)
  simp only [Act.put, List.setIfInBounds_toArray, List.set_cons_zero, List.set_cons_succ]
  refine wpAnyH_take (i := 4) (oi := { dst := some 11, op := Op.load 26 (Operand.tmp 10), type := 26, pos := "law.go:37", after := #[{ on := 3, ground := Ground.data }], guard := none }) (v := .agg #[.int .i64 E.k, .slice a2 n2 c2, .int .i64 E.r]) rfl (by kernel_rfl) (by kernel_rfl) (by kernel_rfl) (fun _ _ _ h => h) (Or.inl ⟨by rfl, ?yeli24⟩) hk ?reli24
  case yeli24 => (intro w hSw; have h0 := (HQQ.out _ hSw.q).1.c66; have h1 := (HQQ.out _ hSw.q).1.c67; have h2 := (HQQ.out _ hSw.q).1.c68; clear hSw; go_simp; first | done | with_reducible rfl)
  simp only [Act.put, List.setIfInBounds_toArray, List.set_cons_zero, List.set_cons_succ]
  refine wpAnyH_ready (rs := [2]) (by decide +kernel) (by simp) ?_
  refine AllReadyH.cons (o := { dst := some 9, op := Op.call { callee := Callee.value (Operand.func 5), args := #[Operand.tmp 8], argTypes := #[26] }, type := 9, pos := "law.go:37", after := #[{ on := 1, ground := Ground.data }], guard := none }) rfl (fun K hK => ?_) AllReadyH.nil
  go_simp
  refine (line20_any E.k E.r a2 n2 c2 E.o _ (HQQ.out _ hk.q).2.1 HOK.out HRB.out hn70 (HQQ.out _ hk.q).2.2).mono ?_
  rintro x w4 ⟨rfl, hb4⟩
  rw [HLS.out]
  replace hk := hk.step hb4
  clear hb4
  refine hK.out _ _ hk (fun _ => ?_)
  clear hK K
  try simp only [Act.put, List.setIfInBounds_toArray, List.set_cons_zero, List.set_cons_succ]
  refine wpAnyH_ready (rs := [5]) (by decide +kernel) (by simp) ?_
  refine AllReadyH.cons (o := { dst := some 12, op := Op.call { callee := Callee.value (Operand.func 6), args := #[Operand.tmp 11], argTypes := #[26] }, type := 9, pos := "law.go:37", after := #[{ on := 4, ground := Ground.data }, { on := 2, ground := Ground.chain }], guard := none }) rfl (fun K hK => ?_) AllReadyH.nil
  go_simp
  refine (refline20_any E.k E.r a2 n2 c2 E.o _ (HQQ.out _ hk.q).2.1 HOK.out HRB.out hn70).mono ?_
  rintro x w5 ⟨rfl, hb5⟩
  rw [HLS.out]
  replace hk := hk.step hb5
  clear hb5
  refine hK.out _ _ hk (fun _ => ?_)
  clear hK K
  try simp only [Act.put, List.setIfInBounds_toArray, List.set_cons_zero, List.set_cons_succ]
  refine wpAnyH_take (i := 6) (oi := { dst := some 13, op := Op.binOp BinOp.eql 9 (Operand.tmp 9) (Operand.tmp 12) 9, type := 4, pos := "law.go:37", after := #[{ on := 2, ground := Ground.data }, { on := 5, ground := Ground.data }], guard := none }) (v := ?veli25) rfl (by kernel_rfl) (by kernel_rfl) (by kernel_rfl) (fun _ _ _ h => h) (Or.inl ⟨by rfl, ?yeli25⟩) hk ?reli25
  case yeli25 => (intro w hSw; (try dsimp only at hSw); go_simp; first | done | with_reducible rfl)
  simp only [Act.put, List.setIfInBounds_toArray, List.set_cons_zero, List.set_cons_succ]
  refine wpAnyH_take (i := 7) (oi := { dst := some 14, op := Op.move (Operand.tmp 13), type := 4, pos := "law.go:37", after := #[{ on := 6, ground := Ground.data }, { on := 5, ground := Ground.chain }], guard := none }) (v := ?veli26) rfl (by kernel_rfl) (by kernel_rfl) (by kernel_rfl) (fun _ _ _ h => h) (Or.inl ⟨by rfl, ?yeli26⟩) hk ?reli26
  case yeli26 => (intro w hSw; (try dsimp only at hSw); go_simp; first | done | with_reducible rfl)
  simp only [Act.put, List.setIfInBounds_toArray, List.set_cons_zero, List.set_cons_succ]
  refine wpAnyH_take (i := 8) (oi := { dst := some 15, op := Op.move (Operand.tmp 1), type := 3, pos := "law.go:37", after := #[{ on := 7, ground := Ground.guard }], guard := some (7, true) }) (v := ?veli27) rfl (by kernel_rfl) (by kernel_rfl) (by kernel_rfl) (fun _ _ _ h => h) (Or.inl ⟨by rfl, ?yeli27⟩) hk ?reli27
  case yeli27 => (intro w hSw; (try dsimp only at hSw); go_simp; first | done | with_reducible rfl)
  simp only [Act.put, List.setIfInBounds_toArray, List.set_cons_zero, List.set_cons_succ]
  refine wpAnyH_take (i := 10) (oi := { dst := some 17, op := Op.move (Operand.tmp 1), type := 3, pos := "law.go:37", after := #[{ on := 7, ground := Ground.guard }], guard := some (7, true) }) (v := ?veli28) rfl (by kernel_rfl) (by kernel_rfl) (by kernel_rfl) (fun _ _ _ h => h) (Or.inl ⟨by rfl, ?yeli28⟩) hk ?reli28
  case yeli28 => (intro w hSw; (try dsimp only at hSw); go_simp; first | done | with_reducible rfl)
  simp only [Act.put, List.setIfInBounds_toArray, List.set_cons_zero, List.set_cons_succ]
  refine wpAnyH_ready (rs := [9]) (by decide +kernel) (by simp) ?_
  refine AllReadyH.cons (o := { dst := some 16, op := Op.call { callee := Callee.value (Operand.func 7), args := #[Operand.tmp 15], argTypes := #[3] }, type := 9, pos := "law.go:37", after := #[{ on := 8, ground := Ground.data }, { on := 7, ground := Ground.chain }, { on := 7, ground := Ground.guard }], guard := some (7, true) }) rfl (fun K hK => ?_) AllReadyH.nil
  go_simp
  refine (word_any kd _).mono ?_
  rintro x w6 ⟨rfl, hw6⟩
  subst hw6
  rw [HWS.out]
  refine hK.out _ _ hk (fun _ => ?_)
  clear hK K
  try simp only [Act.put, List.setIfInBounds_toArray, List.set_cons_zero, List.set_cons_succ]
  refine wpAnyH_ready (rs := [11]) (by decide +kernel) (by simp) ?_
  refine AllReadyH.cons (o := { dst := some 18, op := Op.call { callee := Callee.value (Operand.func 8), args := #[Operand.tmp 17], argTypes := #[3] }, type := 9, pos := "law.go:37", after := #[{ on := 10, ground := Ground.data }, { on := 9, ground := Ground.chain }, { on := 7, ground := Ground.guard }], guard := some (7, true) }) rfl (fun K hK => ?_) AllReadyH.nil
  go_simp
  refine (refword_any kd _).mono ?_
  rintro x w7 ⟨rfl, hb7⟩
  rw [HWS.out]
  replace hk := hk.step hb7
  clear hb7
  refine hK.out _ _ hk (fun _ => ?_)
  clear hK K
  try simp only [Act.put, List.setIfInBounds_toArray, List.set_cons_zero, List.set_cons_succ]
  refine wpAnyH_take (i := 12) (oi := { dst := some 19, op := Op.binOp BinOp.eql 9 (Operand.tmp 16) (Operand.tmp 18) 9, type := 4, pos := "law.go:37", after := #[{ on := 9, ground := Ground.data }, { on := 11, ground := Ground.data }, { on := 7, ground := Ground.guard }], guard := some (7, true) }) (v := ?veli29) rfl (by kernel_rfl) (by kernel_rfl) (by kernel_rfl) (fun _ _ _ h => h) (Or.inl ⟨by rfl, ?yeli29⟩) hk ?reli29
  case yeli29 => (intro w hSw; (try dsimp only at hSw); go_simp; first | done | with_reducible rfl)
  simp only [Act.put, List.setIfInBounds_toArray, List.set_cons_zero, List.set_cons_succ]
  refine wpAnyH_take (i := 13) (oi := { dst := some 20, op := Op.pick (Operand.tmp 14) (Operand.tmp 19) (Operand.const (Value.bool false)), type := 4, pos := "law.go:37", after := #[{ on := 7, ground := Ground.data }, { on := 12, ground := Ground.data }], guard := none }) (v := ?veli210) rfl (by kernel_rfl) (by kernel_rfl) (by kernel_rfl) (fun _ _ _ h => h) (Or.inl ⟨by rfl, ?yeli210⟩) hk ?reli210
  case yeli210 => (intro w hSw; (try dsimp only at hSw); go_simp; first | done | with_reducible rfl)
  simp only [Act.put, List.setIfInBounds_toArray, List.set_cons_zero, List.set_cons_succ]
  refine wpAnyH_take (i := 14) (oi := { dst := some 21, op := Op.move (Operand.tmp 20), type := 4, pos := "law.go:37", after := #[{ on := 13, ground := Ground.data }, { on := 11, ground := Ground.chain }], guard := none }) (v := ?veli211) rfl (by kernel_rfl) (by kernel_rfl) (by kernel_rfl) (fun _ _ _ h => h) (Or.inl ⟨by rfl, ?yeli211⟩) hk ?reli211
  case yeli211 => (intro w hSw; (try dsimp only at hSw); go_simp; first | done | with_reducible rfl)
  simp only [Act.put, List.setIfInBounds_toArray, List.set_cons_zero, List.set_cons_succ]
  refine wpAnyH_ready (rs := [15]) (by decide +kernel) (by simp) ?_
  refine AllReadyH.cons (o := { dst := some 22, op := Op.call { callee := Callee.value (Operand.func 9), args := #[], argTypes := #[] }, type := 4, pos := "law.go:37", after := #[{ on := 14, ground := Ground.chain }, { on := 14, ground := Ground.guard }], guard := some (14, true) }) rfl (fun K hK => ?_) AllReadyH.nil
  go_simp
  refine (lives20_any _).mono ?_
  rintro x w8 ⟨rfl, hb8⟩
  replace hk := hk.step hb8
  clear hb8
  refine hK.out _ _ hk (fun _ => ?_)
  clear hK K
  try simp only [Act.put, List.setIfInBounds_toArray, List.set_cons_zero, List.set_cons_succ]
  refine wpAnyH_take (i := 16) (oi := { dst := some 23, op := Op.pick (Operand.tmp 21) (Operand.tmp 22) (Operand.const (Value.bool false)), type := 4, pos := "law.go:37", after := #[{ on := 14, ground := Ground.data }, { on := 15, ground := Ground.data }], guard := none }) (v := ?veli212) rfl (by kernel_rfl) (by kernel_rfl) (by kernel_rfl) (fun _ _ _ h => h) (Or.inl ⟨by rfl, ?yeli212⟩) hk ?reli212
  case yeli212 => (intro w hSw; (try dsimp only at hSw); go_simp; first | done | with_reducible rfl)
  simp only [Act.put, List.setIfInBounds_toArray, List.set_cons_zero, List.set_cons_succ]
  refine wpAnyH_take (i := 17) (oi := { dst := some 4, op := Op.assign (Operand.tmp 23), type := 4, pos := "law.go:37", after := #[{ on := 16, ground := Ground.data }, { on := 15, ground := Ground.chain }, { on := 0, ground := Ground.phase }, { on := 1, ground := Ground.phase }, { on := 2, ground := Ground.phase }, { on := 3, ground := Ground.phase }, { on := 4, ground := Ground.phase }, { on := 5, ground := Ground.phase }, { on := 6, ground := Ground.phase }, { on := 7, ground := Ground.phase }, { on := 8, ground := Ground.phase }, { on := 9, ground := Ground.phase }, { on := 10, ground := Ground.phase }, { on := 11, ground := Ground.phase }, { on := 12, ground := Ground.phase }, { on := 13, ground := Ground.phase }, { on := 14, ground := Ground.phase }, { on := 15, ground := Ground.phase }, { on := 16, ground := Ground.phase }], guard := none }) (v := ?veli213) rfl (by kernel_rfl) (by kernel_rfl) (by kernel_rfl) (fun _ _ _ h => h) (Or.inl ⟨by rfl, ?yeli213⟩) hk ?reli213
  case yeli213 => (intro w hSw; (try dsimp only at hSw); go_simp; first | done | with_reducible rfl)
  simp only [Act.put, List.setIfInBounds_toArray, List.set_cons_zero, List.set_cons_succ]
  refine wpAnyH_done (by decide +kernel) ?_ _
  have HBF := Bx.mk hk.low
  clear hk HQQ
  go_wp2_with fail
  go_ret
  exact ⟨rfl, HBF.out⟩

set_option maxRecDepth 100000 in
/-- what the walk gives, for every argument and every world that holds the table -/
theorem contract (H : Type) (enc : TypeId × Value → H) (W : World) (base : Nat) (args : Array Value) (ds gs : List (DataW H)) (before : List MemPlace)
    (hval0 : ∀ (j : Nat) t v, Tryd.f3.params[j]? = some t → args[j]? = some v → Value.okWide Tryd.prog W .any base t v)
    (hW : DataW.Whole enc Tryd.prog Tryd.f3.params.toList Rows.entryLinesSpec.vars false W args.toList ds gs before) (hL : laidMetH Tryd.prog Rows.entryLinesRow.laid W) (hsh : W.ShapedOpen Tryd.prog) :
    Calls Tryd.prog 3 args W fun e W' => ∃ v, e = .returned v ∧ Rows.entryLinesSpec.post enc Tryd.prog Tryd.f3 false true false false W args v W' := by
  have hval : ∀ (j : Nat) t v, Tryd.f3.params[j]? = some t → args[j]? = some v → Value.okWide Tryd.prog W .any base t v := hval0
  have hW' := hW
  obtain ⟨p, q, hA0, hV, rfl, hfz, hnd⟩ := hW
  have hA : DataW.TrodAll enc Tryd.prog W 0 (fun _ => true) true Tryd.f3.params.toList args.toList ds p := hA0
  rw [Tryd.params3] at hA hval
  obtain ⟨v0, vs0, d0, ds0, p0, q0, hargs, rfl, rfl, h0, r0⟩ := trodAll_cons hA
  obtain ⟨v1, vs1, d1, ds1, p1, q1, rfl, rfl, rfl, h1, r1⟩ := trodAll_cons r0
  obtain ⟨rfl, rfl, rfl⟩ := trodAll_nil r1
  obtain rfl : args = #[v0, v1] := by cases args; simp_all
  obtain ⟨rfl, rfl⟩ := trodVars_none hV
  have k0 := h0
  have lt0 : ∀ x ∈ p0, x.block < W.heap.size := by obtain ⟨m, hm⟩ := k0; exact DataW.trod_lt m _ _ _ hm
  have k1 := h1
  have lt1 : ∀ x ∈ p1, x.block < W.heap.size := by obtain ⟨m, hm⟩ := k1; exact DataW.trod_lt m _ _ _ hm
  obtain ⟨e, ea0, el0, ec0, rfl, he⟩ := open_ent (hval 0 28 v0 rfl rfl) h0
  obtain ⟨kd, rfl, hkd⟩ := open_i64 (hval 1 3 v1 rfl rfl) h1
  clear hA0 hval0
  refine (walk e ea0 el0 ec0 kd W he hkd hL hsh).mono fun e W' ⟨he, bel⟩ => ?_
  subst he
  exact ⟨_, rfl, _, _, _, [], _, [], hW', trodAll_mk1 (shut_bool Tryd.underlying4 _), (trodAll_cons_mk (Below.trod laidOut (by kernel_rfl) (of_decide_eq_true (by kernel_rfl)) k0 bel lt0) (trodAll_cons_mk (Below.trod laidOut (by kernel_rfl) (of_decide_eq_true (by kernel_rfl)) k1 bel lt1) trodAll_mk0)), rfl, bel.frame _, fun h => by cases h⟩

set_option maxRecDepth 100000 in
theorem laid_met (os : Os) : laidMet Tryd.prog Rows.entryLinesRow.laid ((World.doorLaid Tryd.prog 2000 os).forCall (fun _ _ => 0) ⟨#[], #[.agg (enA en0 none 0 0), .int .i64 0], []⟩).memory :=
  laidMet_of_run' 8 (by kernel_rfl) (by kernel_rfl)
set_option maxRecDepth 100000 in
theorem reads (os : Os) {H : Type} (enc : TypeId × Value → H) : ∃ places, DataW.whole enc Tryd.prog ((World.doorLaid Tryd.prog 2000 os).forCall (fun _ _ => 0) ⟨#[], #[.agg (enA en0 none 0 0), .int .i64 0], []⟩).memory Tryd.f3.params.toList Rows.entryLinesSpec.vars false (#[.agg (enA en0 none 0 0), .int .i64 0] : Array Value).toList 8 = some ([.agg [.lit (.int .i64 0), .lit (.int .i64 0), .agg [.lit (.int .u8 0), .lit (.int .u8 0), .lit (.int .u8 0), .lit (.int .u8 0), .lit (.int .u8 0), .lit (.int .u8 0), .lit (.int .u8 0), .lit (.int .u8 0), .lit (.int .u8 0), .lit (.int .u8 0), .lit (.int .u8 0), .lit (.int .u8 0), .lit (.int .u8 0), .lit (.int .u8 0), .lit (.int .u8 0), .lit (.int .u8 0), .lit (.int .u8 0), .lit (.int .u8 0), .lit (.int .u8 0), .lit (.int .u8 0), .lit (.int .u8 0), .lit (.int .u8 0), .lit (.int .u8 0), .lit (.int .u8 0), .lit (.int .u8 0), .lit (.int .u8 0), .lit (.int .u8 0), .lit (.int .u8 0), .lit (.int .u8 0), .lit (.int .u8 0), .lit (.int .u8 0), .lit (.int .u8 0)], .agg [.lit (.int .u8 0), .lit (.int .u8 0), .lit (.int .u8 0), .lit (.int .u8 0), .lit (.int .u8 0), .lit (.int .u8 0), .lit (.int .u8 0), .lit (.int .u8 0), .lit (.int .u8 0), .lit (.int .u8 0), .lit (.int .u8 0), .lit (.int .u8 0), .lit (.int .u8 0), .lit (.int .u8 0), .lit (.int .u8 0), .lit (.int .u8 0), .lit (.int .u8 0), .lit (.int .u8 0), .lit (.int .u8 0), .lit (.int .u8 0), .lit (.int .u8 0), .lit (.int .u8 0), .lit (.int .u8 0), .lit (.int .u8 0), .lit (.int .u8 0), .lit (.int .u8 0), .lit (.int .u8 0), .lit (.int .u8 0), .lit (.int .u8 0), .lit (.int .u8 0), .lit (.int .u8 0), .lit (.int .u8 0)], .agg [.lit (.int .i64 0), .nil, .lit (.int .i64 0)]], .lit (.int .i64 0)], [], places) :=
  ⟨[], by kernel_rfl⟩
set_option maxRecDepth 100000 in
theorem lifted (os : Os) (started : os.Started) (H : Type) (enc : TypeId × Value → H) (F : Stop.Interp) :
    ReturnsInHanded {} Tryd.checked os 3 .any ((OpenSpec.ofChange Rows.entryLinesSpec).preRow enc Tryd.prog Tryd.f3 Rows.entryLinesRow.domain false Rows.entryLinesRow.laid) (((OpenSpec.ofChange Rows.entryLinesSpec).at F).post enc Tryd.prog Tryd.f3 false true false false) := by
  obtain ⟨places, hx⟩ := reads os enc
  refine returnsInHanded_of_row (C := Tryd.checked) (s := OpenSpec.ofChange Rows.entryLinesSpec) own started (by kernel_rfl) Tryd.func3
    (witness_row_at (enc := enc) (C := Tryd.checked) false (World.doorLaid Tryd.prog 2000 os) #[.agg (enA en0 none 0 0), .int .i64 0] rfl (by kernel_rfl) (by kernel_rfl) (by kernel_rfl)
      (OpenSpec.preRow_of_cond 8 hx (by kernel_rfl) (fun k hk => by cases hk) (by kernel_rfl) (laid_met os))) ?_
  intro W base args ds gs before hval hW _ _ _ hL hsh _
  exact contract H enc W base args ds gs before hval hW hL hsh
theorem said : Rows.EntryLinesSaid :=
  OpenClaim.holds_of_cond 3 Tryd.f3 rfl rfl rfl rfl rfl rfl rfl ⟨rfl, rfl, rfl, rfl, rfl⟩ rfl rfl rfl rfl rfl (by kernel_rfl) Tryd.func3 (by kernel_rfl)
    (of_decide_eq_true (by kernel_rfl)) (by unfold Func.isWrapper; first | (rw [if_pos (by decide +kernel)]; kernel_rfl) | (rw [if_neg (by decide +kernel)]; exact ⟨rfl, rfl⟩))
    (fun os started H enc _ F => by rw [OpenClaim.pre_eq_preRow]; exact lifted os started H enc F)
theorem plain (f : FuncId) (fn : Func) (hf : Tryd.pinned.checked.prog.funcNamed "inquest/inquestlaw20.EntryLines" = some f) (hfn : Tryd.pinned.checked.prog.funcs[f]? = some fn) :
    false = Tryd.pinned.checked.prog.looks [] ∧ ∀ (j : Nat) t, fn.params[j]? = some t → Tryd.pinned.checked.prog.wantsStandIn t = false := by
  obtain rfl : f = 3 := Option.some.inj ((show Tryd.prog.funcNamed "inquest/inquestlaw20.EntryLines" = some 3 by kernel_rfl).symm.trans hf) |>.symm
  obtain rfl : fn = Tryd.f3 := (Option.some.inj (Tryd.func3.symm.trans hfn)).symm
  refine ⟨by kernel_rfl, fun j t ht => ?_⟩
  rw [Tryd.params3] at ht
  have hall : ([28, 3].all fun u => !Tryd.prog.wantsStandIn u) = true := by kernel_rfl
  have hm : t ∈ [28, 3] := by simpa using Array.mem_of_getElem? ht
  exact (show Tryd.prog.wantsStandIn t = false by simpa using List.all_eq_true.1 hall t hm)
/-- the tied card -/
theorem card : Rows.EntryLinesCardSaid :=
  Claim7.holds_tied_plain_at .later [] _ _ _ _ said (fun _ h => by cases h) (by kernel_rfl) (fun _ h => by cases h) entryLines_row_tie rfl ⟨rfl, rfl⟩ (by kernel_rfl) rfl plain (by kernel_rfl)
end Go.Proofs.YtlodbkjjkhpbaaaDoor.entryLines
namespace Go.Proofs.YtlodbkjjkhpbaaaDoor
theorem entryLines_holds : Rows.EntryLinesCardSaid := entryLines.card
#print axioms entryLines_holds
end Go.Proofs.YtlodbkjjkhpbaaaDoor
