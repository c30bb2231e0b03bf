/- For every two slices of bytes and every two ints the law ChunkBack returns true and the slices read as they did (P12.4): what is printed in chunks of any size is read, whatever stands behind, and a beginning of it ends too early. The library's tables are as the program's text lays them (the card ties them). -/
import Derived.Test.YtjlclgmbenhakaaDoorTDoor
import Derived.LaidMore
import Derived.Test.YtjlclgmbenhakaaDoorCPrint3
import Derived.Test.YtjlclgmbenhakaaDoorCLives
import Derived.Test.YtjlclgmbenhakaaDoorCut
import Derived.Test.YtjlclgmbenhakaaDoorSame
import Derived.Test.YtjlclgmbenhakaaDoorLeast
import Derived.WalkKit
import Derived.ShutString
import Derived.ChangeOld
import Derived.Below
namespace Go.Proofs.YtjlclgmbenhakaaDoor.chunkBack
open Go.ChangeShapes Go.WideShapes Go.ChangeAt Go.RowKit
open Go.ChangeMaps (open_string shut_string)
set_option linter.unusedVariables false

theorem laidOut : laidOutB Tryd.prog = true := by kernel_rfl

/-- WHAT THE WALK IS TOLD OF A SLICE OF INTEGERS THAT CAME IN: it is nil; or it leads to a row of 'cap' cells, the numbers 'zs' (the first 'len' are its elements, the rest its spare room), each fitting its kind. -/
def IsRow (k : IntKind) (w : World) (a : Option Addr) (len cap : Nat) (zs : List Int) : Prop :=
  (a = none ∧ len = 0 ∧ cap = 0 ∧ zs = []) ∨
  ∃ x, a = some x ∧ len ≤ cap ∧ cap ≤ maxLen ∧ zs.length = cap ∧ (∀ i, i < zs.length → w.cell? (x.add i) = some (.int k (zs.getD i 0))) ∧ ∀ n ∈ zs, (Lit.int k n).wf = true


set_option maxRecDepth 100000 in
set_option maxHeartbeats 1000000 in
theorem walk (a0 : Option Addr) (len0 cap0 : Nat) (z0 : List Int) (a1 : Option Addr) (len1 cap1 : Nat) (z1 : List Int) (a2 : Int) (a3 : Int) (w : World) (w0 : IsRow .u8 w a0 len0 cap0 z0) (w1 : IsRow .u8 w a1 len1 cap1 z1) (w2 : (Lit.int .i64 a2).wf = true) (w3 : (Lit.int .i64 a3).wf = true) (hL : laidMetH Tryd.prog Rows.chunkBackRow.laid w) (hsh : w.ShapedOpen Tryd.prog) :
    Calls Tryd.prog 4 #[.slice a0 len0 cap0, .slice a1 len1 cap1, .int .i64 a2, .int .i64 a3] w fun e w' => e = .returned (.bool true) ∧ Below w.heap.size w w' := by
  have HBR := Bx.mk (bru_at (plainH hL (by kernel_rfl)) 1 rfl)
  clear hL hsh
  have hrow : Bts w a0 len0 cap0 (z0.take len0) := Bts.of_row w0
  have hrow1 : Bts w a1 len1 cap1 (z1.take len1) := Bts.of_row w1
  generalize z0.take len0 = l at hrow
  generalize z1.take len1 = l1 at hrow1
  clear w0 w1
  have hs := least_bd a2 1 2048 (by decide)
  go_enter Tryd.func4, Tryd.ntmps4
  go_wp2_with fail
  refine (cut_any a0 len0 cap0 2048 l _ hrow (by decide)).mono ?_
  rintro e w' ⟨⟨len, rfl, hl⟩, rfl⟩
  have hlen : len ≤ 2048 := by have := hl.len_eq; rw [List.length_take] at this; omega
  generalize l.take 2048 = m at hl
  have HL := Bx.mk hl
  have hml := hl.len_eq
  clear hrow hl
  go_wp2_with fail
  refine (cut_any a1 len1 cap1 50 l1 _ hrow1 (by decide)).mono ?_
  rintro e w' ⟨⟨lenb, rfl, hl⟩, rfl⟩
  have hlenb : lenb ≤ 50 := by have := hl.len_eq; rw [List.length_take] at this; omega
  generalize l1.take 50 = mb at hl
  have HLB := Bx.mk hl
  clear hrow1 hl
  go_wp2_with fail
  refine (least_any a2 1 2048 _).mono ?_
  rintro e w' ⟨rfl, rfl⟩
  obtain ⟨sz, hsz⟩ : ∃ s : Nat, leastV a2 1 2048 = (s : Int) := ⟨(leastV a2 1 2048).toNat, by omega⟩
  rw [hsz] at hs ⊢
  have HP := Bx.mk (cprint_any a0 len cap0 (sz : Int) m w HL.out HBR.out)
  rw [pnE_ok (by omega) (by omega) (by omega), pnL_ok (by omega) (by omega) (by omega)] at HP
  have HBYP : Bx (Byt (prL sz m)) := ⟨prL_byt sz (by omega) m.length m (Nat.le_refl _) HL.out.byt⟩
  have HW1 : Bx (whV 2048 (prL sz m ++ mb) = (m, (prL sz m).length, 0)) := ⟨by
    unfold whV
    rw [if_neg (by omega)]
    have h1 := pr_run 2048 sz (by omega) mb m.length m [] 0 (Nat.le_refl _) (by simp; omega)
    rw [show (2048 : Int).toNat = 2048 from rfl, h1]; simp⟩
  have HW2 : Bx (∀ j, j < (prL sz m).length → whV 2048 ((prL sz m).take j) = ([], 0, 3)) := ⟨fun j hj => by
    unfold whV
    rw [if_neg (by omega)]
    exact pr_begin 2048 sz (by omega) m (by omega) j hj⟩
  have HPOS : Bx (5 ≤ (prL sz m).length ∧ (prL sz m).length ≤ 100000000) := ⟨pr_bounds sz (by omega) (by omega) m (by omega)⟩
  have HML := Bx.mk hml
  clear hsz hml
  go_wp2_with fail
  refine HP.out.mono ?_
  rintro e w2 ⟨v2, rfl, ho2, hb2⟩
  obtain ⟨b2, c2, hv2, hq2⟩ := Bts.of_owns ho2 HBYP.out
  subst hv2
  have HQ2 := Bx.mk hq2
  have HB2 := Bx.mk hb2
  generalize prL sz m = T at HQ2 HW1 HW2 HPOS HBYP
  obtain ⟨np, hnp⟩ : ∃ n, n = T.length := ⟨_, rfl⟩
  rw [← hnp] at HQ2 HPOS HW1 HW2 ⊢
  have hpos := HPOS.out
  have HNP := Bx.mk hnp
  clear ho2 hb2 hq2 HP hnp HPOS
  go_wp2_with fail
  refine (copy_any b2 np c2 T _ HQ2.out (by omega)).mono ?_
  rintro e w3 ⟨v3, rfl, ho3, hb3⟩
  have HO3 := Bx.mk ho3
  have HB3 := Bx.mk hb3
  have HM3 := Bx.mk ((HLB.out.below HB2.out).below hb3)
  clear ho3 hb3
  go_wp2_with (at_builtin; refine wpList_append_bts rfl (.tmp 28) (.tmp 29) rfl w2.heap.size np v3 T rfl HO3.out a1 lenb cap1 mb rfl HM3.out (by omega) HB3.out.size ?_; intro v4 w4 ho4 hb4 _; obtain ⟨b4, c4, hv4, hq4⟩ := Bts.of_owns ho4 (HBYP.out.append HLB.out.byt); subst hv4; have HQ4 := Bx.mk hq4; have HB4 := Bx.mk (HB3.out.trans hb4); clear ho4 hb4 hq4)
  have HCW := Bx.mk (cwhole_any b4 (np + lenb) c4 (T ++ mb) 2048 w4 HQ4.out)
  rw [HW1.out] at HCW
  refine HCW.out.mono ?_
  rintro e w5 ⟨v5, rfl, ho5, hb5⟩
  have ho6 : w5.ownsRow w4.heap.size 5 1 v5 m.length (bv m) := ho5
  rw [HML.out] at ho6
  obtain ⟨b5, c5, hv5, hq5⟩ := Bts.of_owns ho6 HL.out.byt
  subst hv5
  have HB5 := Bx.mk (bstep HB4.out hb5)
  have HBA := Bx.mk (bstep HB2.out HB5.out)
  have HS := Bx.mk (same_yes b5 a0 len len c5 cap0 m _ hq5 (HL.out.below HBA.out))
  clear ho5 ho6 hb5 hq5 HCW HQ4 HB4 HO3 HB3 HM3
  go_wp2_with fail
  refine HS.out.mono ?_
  rintro e w6 ⟨rfl, q, hw6⟩
  have HB6 : Bx (Below w2.heap.size w2 w6) := ⟨by rw [hw6]; exact below_drewN HB5.out q⟩
  have hk := least_bd a3 0 ((np : Int) - 1) (by omega)
  have k1 : ((np : Int) != (np : Int)) = false := by simp
  clear hw6 HS HB5 HBA
  go_wp2_with fail
  refine (least_any a3 0 ((np : Int) - 1) _).mono ?_
  rintro e w' ⟨rfl, hw'⟩
  subst hw'
  obtain ⟨j, hj⟩ : ∃ j : Nat, leastV a3 0 ((np : Int) - 1) = (j : Int) := ⟨(leastV a3 0 ((np : Int) - 1)).toNat, by omega⟩
  rw [hj] at hk ⊢
  have hcc := HQ2.out.le_cap
  have hsl := run_sl_h b2 np c2 j (j : Int) rfl (by omega)
  have HQJ : Bx (Bts w6 (slA b2 0 c2) j c2 (T.take j)) := ⟨by
    have h1 := (HQ2.out.below HB6.out).piece 0 j (Nat.zero_le _) (by omega)
    rw [Nat.sub_zero, Nat.sub_zero, List.drop_zero] at h1
    exact h1⟩
  generalize slA b2 0 c2 = b7 at hsl HQJ
  have HCW := Bx.mk (cwhole_any b7 j c2 (T.take j) 2048 w6 HQJ.out)
  rw [HW2.out j (by have := HNP.out; omega)] at HCW
  clear hj k1
  go_wp2_with fail
  refine HCW.out.mono ?_
  rintro e w7 ⟨v7, rfl, ho7, hb7⟩
  obtain ⟨b8, c8, hv8, _⟩ := Bts.of_owns (l := []) ho7 Byt.nil
  subst hv8
  have HB7 := Bx.mk (bstep HB2.out (bstep HB6.out hb7))
  clear ho7 hb7 HCW hsl HQJ
  go_wp2_with fail
  refine (lives_any _).mono ?_
  rintro e w8 ⟨rfl, hb8⟩
  have HFIN := Bx.mk (bstep HB7.out hb8)
  clear hb8
  go_wp2
  go_ret
  exact ⟨rfl, HFIN.out⟩

set_option maxRecDepth 100000 in
/-- what the walk gives, for every argument and every world that holds the table -/
theorem contract (H : Type) (enc : TypeId × Value → H) (W : World) (base : Nat) (args : Array Value) (ds gs : List (DataW H)) (before : List MemPlace)
    (hval0 : ∀ (j : Nat) t v, Tryd.f4.params[j]? = some t → args[j]? = some v → Value.okWide Tryd.prog W .any base t v)
    (hW : DataW.Whole enc Tryd.prog Tryd.f4.params.toList Rows.chunkBackSpec.vars false W args.toList ds gs before) (hL : laidMetH Tryd.prog Rows.chunkBackRow.laid W) (hsh : W.ShapedOpen Tryd.prog) :
    Calls Tryd.prog 4 args W fun e W' => ∃ v, e = .returned v ∧ Rows.chunkBackSpec.post enc Tryd.prog Tryd.f4 false true false false W args v W' := by
  have hval : ∀ (j : Nat) t v, Tryd.f4.params[j]? = some t → args[j]? = some v → Value.okWide Tryd.prog W .any base t v := hval0
  have hW' := hW
  obtain ⟨p, q, hA0, hV, rfl, hfz, hnd⟩ := hW
  have hA : DataW.TrodAll enc Tryd.prog W 0 (fun _ => true) true Tryd.f4.params.toList args.toList ds p := hA0
  rw [Tryd.params4] at hA hval
  obtain ⟨v0, vs0, d0, ds0, p0, q0, hargs, rfl, rfl, h0, r0⟩ := trodAll_cons hA
  obtain ⟨v1, vs1, d1, ds1, p1, q1, rfl, rfl, rfl, h1, r1⟩ := trodAll_cons r0
  obtain ⟨v2, vs2, d2, ds2, p2, q2, rfl, rfl, rfl, h2, r2⟩ := trodAll_cons r1
  obtain ⟨v3, vs3, d3, ds3, p3, q3, rfl, rfl, rfl, h3, r3⟩ := trodAll_cons r2
  obtain ⟨rfl, rfl, rfl⟩ := trodAll_nil r3
  obtain rfl : args = #[v0, v1, v2, v3] := by cases args; simp_all
  obtain ⟨rfl, rfl⟩ := trodVars_none hV
  obtain ⟨a0, len0, cap0, rfl⟩ := okWide_slice Tryd.underlying22 (hval 0 22 v0 rfl rfl)
  have k0 := h0
  have lt0 : ∀ x ∈ p0, x.block < W.heap.size := by obtain ⟨m, hm⟩ := k0; exact DataW.trod_lt m _ _ _ hm
  obtain ⟨z0, w0⟩ : ∃ zs, IsRow .u8 W a0 len0 cap0 zs := by
    obtain ⟨fuel, hf⟩ := h0
    rcases open_ints Tryd.underlying22 Tryd.underlying5 (by kernel_rfl) hf with ⟨hcs, _⟩ | ⟨x, l, c, zs, hcs, _, hl, hm, hz, _, hcell, hwz⟩
    · simp [Value.cells] at hcs
      obtain ⟨rfl, rfl, rfl⟩ := hcs
      exact ⟨[], .inl ⟨rfl, rfl, rfl, rfl⟩⟩
    · simp [Value.cells] at hcs
      obtain ⟨rfl, rfl, rfl⟩ := hcs
      exact ⟨zs, .inr ⟨_, rfl, hl, hm, by simpa using hz, hcell, hwz⟩⟩
  obtain ⟨a1, len1, cap1, rfl⟩ := okWide_slice Tryd.underlying22 (hval 1 22 v1 rfl rfl)
  have k1 := h1
  have lt1 : ∀ x ∈ p1, x.block < W.heap.size := by obtain ⟨m, hm⟩ := k1; exact DataW.trod_lt m _ _ _ hm
  obtain ⟨z1, w1⟩ : ∃ zs, IsRow .u8 W a1 len1 cap1 zs := by
    obtain ⟨fuel, hf⟩ := h1
    rcases open_ints Tryd.underlying22 Tryd.underlying5 (by kernel_rfl) hf with ⟨hcs, _⟩ | ⟨x, l, c, zs, hcs, _, hl, hm, hz, _, hcell, hwz⟩
    · simp [Value.cells] at hcs
      obtain ⟨rfl, rfl, rfl⟩ := hcs
      exact ⟨[], .inl ⟨rfl, rfl, rfl, rfl⟩⟩
    · simp [Value.cells] at hcs
      obtain ⟨rfl, rfl, rfl⟩ := hcs
      exact ⟨zs, .inr ⟨_, rfl, hl, hm, by simpa using hz, hcell, hwz⟩⟩
  obtain ⟨a2, rfl, rfl, rfl, w2⟩ := open_int Tryd.underlying3 (hval 2 3 v2 rfl rfl) h2
  obtain ⟨a3, rfl, rfl, rfl, w3⟩ := open_int Tryd.underlying3 (hval 3 3 v3 rfl rfl) h3
  clear hA0 hval0
  refine (walk a0 len0 cap0 z0 a1 len1 cap1 z1 a2 a3 W w0 w1 w2 w3 hL hsh).mono fun e W' ⟨he, bel⟩ => ?_
  subst he
  exact ⟨_, rfl, _, _, _, [], _, [], hW', trodAll_mk1 (shut_bool Tryd.underlying4 _), (trodAll_cons_mk (Below.trod laidOut (by kernel_rfl) (of_decide_eq_true (by kernel_rfl)) k0 bel lt0) (trodAll_cons_mk (Below.trod laidOut (by kernel_rfl) (of_decide_eq_true (by kernel_rfl)) k1 bel lt1) (trodAll_cons_mk (shut_int Tryd.underlying3 w2) (trodAll_cons_mk (shut_int Tryd.underlying3 w3) trodAll_mk0)))), rfl, bel.frame _, fun h => by cases h⟩

set_option maxRecDepth 100000 in
theorem laid_met (os : Os) : laidMet Tryd.prog Rows.chunkBackRow.laid ((World.doorLaid Tryd.prog 2000 os).forCall (fun _ _ => 0) ⟨#[], #[.slice none 0 0, .slice none 0 0, .int .i64 0, .int .i64 0], []⟩).memory :=
  laidMet_of_run' 8 (by kernel_rfl) (by kernel_rfl)
set_option maxRecDepth 100000 in
theorem reads (os : Os) {H : Type} (enc : TypeId × Value → H) : ∃ places, DataW.whole enc Tryd.prog ((World.doorLaid Tryd.prog 2000 os).forCall (fun _ _ => 0) ⟨#[], #[.slice none 0 0, .slice none 0 0, .int .i64 0, .int .i64 0], []⟩).memory Tryd.f4.params.toList Rows.chunkBackSpec.vars false (#[.slice none 0 0, .slice none 0 0, .int .i64 0, .int .i64 0] : Array Value).toList 8 = some ([.nil, .nil, .lit (.int .i64 0), .lit (.int .i64 0)], [], places) :=
  ⟨[], by kernel_rfl⟩
set_option maxRecDepth 100000 in
theorem lifted (os : Os) (started : os.Started) (H : Type) (enc : TypeId × Value → H) (F : Stop.Interp) :
    ReturnsInHanded {} Tryd.checked os 4 .any ((OpenSpec.ofChange Rows.chunkBackSpec).preRow enc Tryd.prog Tryd.f4 Rows.chunkBackRow.domain false Rows.chunkBackRow.laid) (((OpenSpec.ofChange Rows.chunkBackSpec).at F).post enc Tryd.prog Tryd.f4 false true false false) := by
  obtain ⟨places, hx⟩ := reads os enc
  refine returnsInHanded_of_row (C := Tryd.checked) (s := OpenSpec.ofChange Rows.chunkBackSpec) own started (by kernel_rfl) Tryd.func4
    (witness_row_at (enc := enc) (C := Tryd.checked) false (World.doorLaid Tryd.prog 2000 os) #[.slice none 0 0, .slice none 0 0, .int .i64 0, .int .i64 0] rfl (by kernel_rfl) (by kernel_rfl) (by kernel_rfl)
      (OpenSpec.preRow_of_cond 8 hx (by kernel_rfl) (fun k hk => by cases hk) (by kernel_rfl) (laid_met os))) ?_
  intro W base args ds gs before hval hW _ _ _ hL hsh _
  exact contract H enc W base args ds gs before hval hW hL hsh
theorem said : Rows.ChunkBackSaid :=
  OpenClaim.holds_of_cond 4 Tryd.f4 rfl rfl rfl rfl rfl rfl rfl ⟨rfl, rfl, rfl, rfl, rfl⟩ rfl rfl rfl rfl rfl (by kernel_rfl) Tryd.func4 (by kernel_rfl)
    (of_decide_eq_true (by kernel_rfl)) (by unfold Func.isWrapper; first | (rw [if_pos (by decide +kernel)]; kernel_rfl) | (rw [if_neg (by decide +kernel)]; exact ⟨rfl, rfl⟩))
    (fun os started H enc _ F => by rw [OpenClaim.pre_eq_preRow]; exact lifted os started H enc F)
theorem plain (f : FuncId) (fn : Func) (hf : Tryd.pinned.checked.prog.funcNamed "inquest/inquestlaw12.ChunkBack" = some f) (hfn : Tryd.pinned.checked.prog.funcs[f]? = some fn) :
    false = Tryd.pinned.checked.prog.looks [] ∧ ∀ (j : Nat) t, fn.params[j]? = some t → Tryd.pinned.checked.prog.wantsStandIn t = false := by
  obtain rfl : f = 4 := Option.some.inj ((show Tryd.prog.funcNamed "inquest/inquestlaw12.ChunkBack" = some 4 by kernel_rfl).symm.trans hf) |>.symm
  obtain rfl : fn = Tryd.f4 := (Option.some.inj (Tryd.func4.symm.trans hfn)).symm
  refine ⟨by kernel_rfl, fun j t ht => ?_⟩
  rw [Tryd.params4] at ht
  have hall : ([22, 22, 3, 3].all fun u => !Tryd.prog.wantsStandIn u) = true := by kernel_rfl
  have hm : t ∈ [22, 22, 3, 3] := by simpa using Array.mem_of_getElem? ht
  exact (show Tryd.prog.wantsStandIn t = false by simpa using List.all_eq_true.1 hall t hm)
/-- the tied card -/
theorem card : Rows.ChunkBackCardSaid :=
  Claim7.holds_tied_plain_at .later [] _ _ _ _ said (fun _ h => by cases h) (by kernel_rfl) (fun _ h => by cases h) chunkBack_row_tie rfl ⟨rfl, rfl⟩ (by kernel_rfl) rfl plain (by kernel_rfl)
end Go.Proofs.YtjlclgmbenhakaaDoor.chunkBack
namespace Go.Proofs.YtjlclgmbenhakaaDoor
theorem chunkBack_holds : Rows.ChunkBackCardSaid := chunkBack.card
#print axioms chunkBack_holds
end Go.Proofs.YtjlclgmbenhakaaDoor
