/- For every int, every two slices of bytes and every int k the law WireTold returns true and the slices read as they did (P13.5): an answer is read as it was written, whatever stands behind, and a beginning of it ends too early. The library's tables are as the program's text lays them (the card ties them). -/
import Derived.Test.YtdameoejigpnhabGreatDoorTDoor
import Derived.LaidMore
import Derived.Lay
import Derived.Test.YtdameoejigpnhabGreatDoorRAns2
import Derived.Test.YtdameoejigpnhabGreatDoorSma
import Derived.WalkKit
import Derived.ShutString
import Derived.ChangeOld
import Derived.Below
namespace Go.Proofs.YtdameoejigpnhabGreatDoor.wireTold
open Go.ChangeShapes Go.WideShapes Go.ChangeAt Go.RowKit
open Go.ChangeMaps (open_string shut_string)
set_option linter.unusedVariables false

theorem laidOut : laidOutB Tryz.prog = true := by kernel_rfl

/-- WHAT THE WALK IS TOLD OF A SLICE OF INTEGERS THAT CAME IN: it is nil; or it leads to a row of 'cap' cells, the numbers 'zs' (the first 'len' are its elements, the rest its spare room), each fitting its kind. -/
def IsRow (k : IntKind) (w : World) (a : Option Addr) (len cap : Nat) (zs : List Int) : Prop :=
  (a = none ∧ len = 0 ∧ cap = 0 ∧ zs = []) ∨
  ∃ x, a = some x ∧ len ≤ cap ∧ cap ≤ maxLen ∧ zs.length = cap ∧ (∀ i, i < zs.length → w.cell? (x.add i) = some (.int k (zs.getD i 0))) ∧ ∀ n ∈ zs, (Lit.int k n).wf = true


set_option maxRecDepth 100000 in
set_option maxHeartbeats 1000000 in
theorem walk (a0 : Int) (a1 : Option Addr) (len1 cap1 : Nat) (z1 : List Int) (a2 : Option Addr) (len2 cap2 : Nat) (z2 : List Int) (a3 : Int) (w : World) (w0 : (Lit.int .i64 a0).wf = true) (w1 : IsRow .u8 w a1 len1 cap1 z1) (w2 : IsRow .u8 w a2 len2 cap2 z2) (w3 : (Lit.int .i64 a3).wf = true) (hL : laidMetH Tryz.prog Rows.wireToldRow.laid w) (hsh : w.ShapedOpen Tryz.prog) :
    Calls Tryz.prog 5 #[.int .i64 a0, .slice a1 len1 cap1, .slice a2 len2 cap2, .int .i64 a3] w fun e w' => e = .returned (.bool true) ∧ Below w.heap.size w w' := by
  have HST := Bx.mk (stt_at (plainH hL (by kernel_rfl)) 6 rfl)
  have HEV := Bx.mk (env_at (plainH hL (by kernel_rfl)) hsh 2 4 5 rfl rfl rfl)
  clear hL hsh w0 w3
  have hrow : Bts w a1 len1 cap1 (z1.take len1) := Bts.of_row w1
  have hbeh : Bts w a2 len2 cap2 (z2.take len2) := Bts.of_row w2
  generalize z1.take len1 = l at hrow
  generalize z2.take len2 = lb at hbeh
  clear w1 w2
  go_enter Tryz.func5, Tryz.ntmps5
  go_wp2_with fail
  refine (cut_any a1 len1 cap1 8192 l _ hrow (by decide)).mono ?_
  rintro e w' ⟨⟨len, rfl, hl⟩, rfl⟩
  have hlen : len ≤ 8192 := by have := hl.len_eq; rw [List.length_take] at this; omega
  have HM := Bx.mk hl
  generalize l.take 8192 = m at *
  clear hrow hl
  go_wp2_with fail
  refine (cut_any a2 len2 cap2 100 lb _ hbeh (by decide)).mono ?_
  rintro e w' ⟨⟨lenb, rfl, hl⟩, rfl⟩
  have hlenb : lenb ≤ 100 := by have := hl.len_eq; rw [List.length_take] at this; omega
  have HBE := Bx.mk hl
  generalize lb.take 100 = bh at *
  clear hbeh hl
  have HML := Bx.mk HM.out.len_eq
  go_wp2_with fail
  refine (wanswer_any a0 a1 len cap1 m _ HM.out (by omega) HST.out HEV.out).mono ?_
  rintro e w3 ⟨hb3, hor⟩
  have HB3 := Bx.mk hb3
  have HM3 := Bx.mk (HM.out.below hb3)
  have HBE3 := Bx.mk (HBE.out.below hb3)
  clear hb3
  rcases hor with ⟨hc1, hc2, b3, c3, rfl, hbt3⟩ | ⟨hn3, rfl⟩
  · have HRB := Bx.mk (ra_ok a0 m bh hc1 hc2)
    have HRS : Bx (∀ j, j < (ansL a0 m).length → raR ((ansL a0 m).take j) = (0, [], 0, 3)) := ⟨fun j hj => ra_begin a0 m hc1 hc2 j hj⟩
    have HBT3 := Bx.mk hbt3
    have HLX : Bx ((ansL a0 m).length < 10000 ∧ 1 ≤ (ansL a0 m).length) := ⟨by
      have h1 := led_size hc1
      have h2 := decN_le m.length (by rw [HML.out]; omega)
      have h3 := decN_pos m.length
      unfold ansL
      simp only [List.length_append, List.length_cons, List.length_nil]
      have := HML.out
      omega⟩
    clear hbt3 hc1 hc2
    generalize ansL a0 m = P at *
    obtain ⟨NP, hNP⟩ : ∃ NP, P.length = NP := ⟨_, rfl⟩
    have HNP := Bx.mk hNP
    rw [hNP] at HBT3 HRB HRS HLX ⊢
    clear hNP
    have hNPb : NP < 10000 := HLX.out.1
    have hNP1 : 1 ≤ NP := HLX.out.2
    go_wp2_with fail
    refine (copy_any _ NP c3 P _ HBT3.out (by omega)).mono ?_
    rintro e w5 ⟨v6, rfl, hown6, hb6⟩
    have HBE6 := Bx.mk (HBE3.out.below hb6)
    have HOWN6 := Bx.mk hown6
    have HB6 := Bx.mk (bstep HB3.out hb6)
    have HM6 := Bx.mk (HM3.out.below hb6)
    have HBT6 := Bx.mk (HBT3.out.below hb6)
    have HS6 := Bx.mk hb6.size
    have HBY : Bx (Byt (P ++ bh)) := ⟨HBT3.out.byt.append HBE3.out.byt⟩
    clear hown6 hb6
    go_wp2_with (at_builtin; refine wpList_append_bts rfl (.tmp 44) (.tmp 45) rfl w3.heap.size NP _ P rfl HOWN6.out a2 lenb cap2 bh rfl HBE6.out (by omega) HS6.out ?_; intro v7 w7 hown7 hb7 hgr7; have hlp : (P ++ bh).length = NP + lenb := (by rw [List.length_append, HNP.out, HBE6.out.len_eq]); rw [← hlp] at hown7; obtain ⟨a7, c7, hv7, hm7⟩ := Bts.of_owns hown7 HBY.out; rw [hlp] at hv7 hm7; subst hv7; have HM7 := Bx.mk hm7; have HK7 : Bx (∀ k, k < w3.heap.size → w7.heap[k]? = w5.heap[k]?) := ⟨fun k hk => hb7.block k hk⟩; have HB7 : Bx (Below w.heap.size w w7) := ⟨HB6.out.trans (hb7.mono HB3.out.size)⟩; have HS7 := Bx.mk hb7.size; clear hown7 hb7 hgr7 hm7 hlp)
    have HMM7 : Bx (Bts w7 a1 len cap1 m) := ⟨HM6.out.keep (fun hp p e => HK7.out _ (HM3.out.lt hp e)) HS7.out⟩
    have HBT7 : Bx (Bts w7 (some ⟨b3, 0, none⟩) NP c3 P) := ⟨HBT6.out.keep (fun hp p e => HK7.out _ (HBT3.out.lt hp e)) HS7.out⟩
    refine (wreadans_any a7 _ c7 (P ++ bh) _ HM7.out (by omega) (HST.out.below HB7.out) (HEV.out.up HB7.out)).mono ?_
    rw [HRB.out]
    rintro e w8 ⟨hb8, a8, c8, rfl, hbt8⟩
    simp only at hbt8 ⊢
    have HB8 := Bx.mk (bstep HB7.out hb8)
    have HBT8 := Bx.mk (HBT7.out.below hb8)
    have HMM8 := Bx.mk (HMM7.out.below hb8)
    rw [HML.out] at hbt8 ⊢
    have HBU8 := Bx.mk hbt8
    clear hb8 hbt8
    have q9 : (a0 != a0) = false := by simp
    go_wp2_with fail
    refine (same_yes a8 a1 len len c8 cap1 m _ HBU8.out HMM8.out).mono ?_
    rintro e w9 ⟨rfl, q, rfl⟩
    have hd9 : Below w8.heap.size w8 (w8.drewN q) := ⟨rfl, rfl, rfl, Nat.le_refl _, fun _ _ => rfl⟩
    have HB9 := Bx.mk (bstep HB8.out hd9)
    have HBT9 := Bx.mk (HBT8.out.below hd9)
    clear hd9
    generalize w8.drewN q = w9 at *
    obtain ⟨j, hj1, hj2⟩ : ∃ j : Nat, leastV a3 0 ((NP : Int) - 1) = (j : Int) ∧ j < NP := by
      have := least_bd a3 0 ((NP : Int) - 1) (by omega)
      exact ⟨(leastV a3 0 ((NP : Int) - 1)).toNat, by omega, by omega⟩
    have HLV := Bx.mk hj1
    have q1 : (j : Int) ≤ (c3 : Int) := by have := HBT9.out.le_cap; omega
    have q2 : (0 : Int) ≤ (j : Int) := by omega
    have HPJ := Bx.mk (HBT9.out.cutl j (by omega))
    clear hj1
    go_wp2_with fail
    refine (least_any a3 0 ((NP : Int) - 1) _).mono ?_
    rintro e w11 ⟨rfl, rfl⟩
    rw [HLV.out]
    go_wp2_with fail
    refine (wreadans_any _ j c3 (P.take j) _ HPJ.out (by omega) (HST.out.below HB9.out) (HEV.out.up HB9.out)).mono ?_
    rw [HRS.out j hj2]
    rintro e w12 ⟨hb12, a12, c12, rfl, hbt12⟩
    simp only at hbt12 ⊢
    have HB12 := Bx.mk (bstep HB9.out hb12)
    clear hb12 hbt12
    go_wp2_with fail
    refine (wlives_any _ (HEV.out.up HB12.out)).mono ?_
    rintro e w13 ⟨rfl, hb13⟩
    have HFIN := Bx.mk (bstep HB12.out hb13)
    clear hb13
    go_wp2
    go_ret
    exact ⟨rfl, HFIN.out⟩
  · have HN3 : Bx (a0 ∉ cdsL ∧ anE a0 m.length = 2) := ⟨by
      have h8 : ¬ 8192 < m.length := by have := HML.out; omega
      by_cases hc : a0 ∈ cdsL
      · exact absurd (anE_ok hc (by omega)) hn3
      · exact ⟨hc, by unfold anE; rw [if_pos hc]⟩⟩
    rw [HN3.out.2]
    have hem : (strOf (rsnL a0)).toList.isEmpty = true := by rw [empty_str _ (rsn_byt a0), mem_iff.2 HN3.out.1]; rfl
    have CR : Bx (Calls Tryz.prog 12 #[.int .i64 a0] w3 fun e w' => e = .returned (.string (strOf (rsnL a0))) ∧ Below w3.heap.size w3 w') := ⟨wreason_any a0 w3 (HST.out.below HB3.out)⟩
    generalize strOf (rsnL a0) = RS at *
    clear hn3
    go_wp2_with fail
    refine CR.out.mono ?_
    rintro e w7 ⟨rfl, hb7⟩
    have HB7 := Bx.mk (bstep HB3.out hb7)
    clear hb7 CR
    go_wp2_with fail
    refine (wlives_any _ (HEV.out.up HB7.out)).mono ?_
    rintro e w9 ⟨rfl, hb9⟩
    have HFIN := Bx.mk (bstep HB7.out hb9)
    clear hb9
    go_wp2
    go_ret
    exact ⟨rfl, HFIN.out⟩

set_option maxRecDepth 100000 in
/-- what the walk gives, for every argument and every world that holds the table -/
theorem contract (H : Type) (enc : TypeId × Value → H) (W : World) (base : Nat) (args : Array Value) (ds gs : List (DataW H)) (before : List MemPlace)
    (hval0 : ∀ (j : Nat) t v, Tryz.f5.params[j]? = some t → args[j]? = some v → Value.okWide Tryz.prog W .any base t v)
    (hW : DataW.Whole enc Tryz.prog Tryz.f5.params.toList Rows.wireToldSpec.vars false W args.toList ds gs before) (hL : laidMetH Tryz.prog Rows.wireToldRow.laid W) (hsh : W.ShapedOpen Tryz.prog) :
    Calls Tryz.prog 5 args W fun e W' => ∃ v, e = .returned v ∧ Rows.wireToldSpec.post enc Tryz.prog Tryz.f5 false true false false W args v W' := by
  have hval : ∀ (j : Nat) t v, Tryz.f5.params[j]? = some t → args[j]? = some v → Value.okWide Tryz.prog W .any base t v := hval0
  have hW' := hW
  obtain ⟨p, q, hA0, hV, rfl, hfz, hnd⟩ := hW
  have hA : DataW.TrodAll enc Tryz.prog W 0 (fun _ => true) true Tryz.f5.params.toList args.toList ds p := hA0
  rw [Tryz.params5] at hA hval
  obtain ⟨v0, vs0, d0, ds0, p0, q0, hargs, rfl, rfl, h0, r0⟩ := trodAll_cons hA
  obtain ⟨v1, vs1, d1, ds1, p1, q1, rfl, rfl, rfl, h1, r1⟩ := trodAll_cons r0
  obtain ⟨v2, vs2, d2, ds2, p2, q2, rfl, rfl, rfl, h2, r2⟩ := trodAll_cons r1
  obtain ⟨v3, vs3, d3, ds3, p3, q3, rfl, rfl, rfl, h3, r3⟩ := trodAll_cons r2
  obtain ⟨rfl, rfl, rfl⟩ := trodAll_nil r3
  obtain rfl : args = #[v0, v1, v2, v3] := by cases args; simp_all
  obtain ⟨rfl, rfl⟩ := trodVars_none hV
  obtain ⟨a0, rfl, rfl, rfl, w0⟩ := open_int Tryz.underlying3 (hval 0 3 v0 rfl rfl) h0
  obtain ⟨a1, len1, cap1, rfl⟩ := okWide_slice Tryz.underlying22 (hval 1 22 v1 rfl rfl)
  have k1 := h1
  have lt1 : ∀ x ∈ p1, x.block < W.heap.size := by obtain ⟨m, hm⟩ := k1; exact DataW.trod_lt m _ _ _ hm
  obtain ⟨z1, w1⟩ : ∃ zs, IsRow .u8 W a1 len1 cap1 zs := by
    obtain ⟨fuel, hf⟩ := h1
    rcases open_ints Tryz.underlying22 Tryz.underlying5 (by kernel_rfl) hf with ⟨hcs, _⟩ | ⟨x, l, c, zs, hcs, _, hl, hm, hz, _, hcell, hwz⟩
    · simp [Value.cells] at hcs
      obtain ⟨rfl, rfl, rfl⟩ := hcs
      exact ⟨[], .inl ⟨rfl, rfl, rfl, rfl⟩⟩
    · simp [Value.cells] at hcs
      obtain ⟨rfl, rfl, rfl⟩ := hcs
      exact ⟨zs, .inr ⟨_, rfl, hl, hm, by simpa using hz, hcell, hwz⟩⟩
  obtain ⟨a2, len2, cap2, rfl⟩ := okWide_slice Tryz.underlying22 (hval 2 22 v2 rfl rfl)
  have k2 := h2
  have lt2 : ∀ x ∈ p2, x.block < W.heap.size := by obtain ⟨m, hm⟩ := k2; exact DataW.trod_lt m _ _ _ hm
  obtain ⟨z2, w2⟩ : ∃ zs, IsRow .u8 W a2 len2 cap2 zs := by
    obtain ⟨fuel, hf⟩ := h2
    rcases open_ints Tryz.underlying22 Tryz.underlying5 (by kernel_rfl) hf with ⟨hcs, _⟩ | ⟨x, l, c, zs, hcs, _, hl, hm, hz, _, hcell, hwz⟩
    · simp [Value.cells] at hcs
      obtain ⟨rfl, rfl, rfl⟩ := hcs
      exact ⟨[], .inl ⟨rfl, rfl, rfl, rfl⟩⟩
    · simp [Value.cells] at hcs
      obtain ⟨rfl, rfl, rfl⟩ := hcs
      exact ⟨zs, .inr ⟨_, rfl, hl, hm, by simpa using hz, hcell, hwz⟩⟩
  obtain ⟨a3, rfl, rfl, rfl, w3⟩ := open_int Tryz.underlying3 (hval 3 3 v3 rfl rfl) h3
  clear hA0 hval0
  refine (walk a0 a1 len1 cap1 z1 a2 len2 cap2 z2 a3 W w0 w1 w2 w3 hL hsh).mono fun e W' ⟨he, bel⟩ => ?_
  subst he
  exact ⟨_, rfl, _, _, _, [], _, [], hW', trodAll_mk1 (shut_bool Tryz.underlying4 _), (trodAll_cons_mk (shut_int Tryz.underlying3 w0) (trodAll_cons_mk (Below.trod laidOut (by kernel_rfl) (of_decide_eq_true (by kernel_rfl)) k1 bel lt1) (trodAll_cons_mk (Below.trod laidOut (by kernel_rfl) (of_decide_eq_true (by kernel_rfl)) k2 bel lt2) (trodAll_cons_mk (shut_int Tryz.underlying3 w3) trodAll_mk0)))), rfl, bel.frame _, fun h => by cases h⟩

set_option maxRecDepth 100000 in
theorem laid_met (os : Os) : laidMet Tryz.prog Rows.wireToldRow.laid ((World.laidAll Tryz.prog os Rows.wireToldRow.laid).forCall (fun _ _ => 0) ⟨#[], #[.int .i64 0, .slice none 0 0, .slice none 0 0, .int .i64 0], []⟩).memory :=
  laidMet_laidAll _ (by kernel_rfl) (by kernel_rfl)
set_option maxRecDepth 100000 in
theorem reads (os : Os) {H : Type} (enc : TypeId × Value → H) : ∃ places, DataW.whole enc Tryz.prog ((World.laidAll Tryz.prog os Rows.wireToldRow.laid).forCall (fun _ _ => 0) ⟨#[], #[.int .i64 0, .slice none 0 0, .slice none 0 0, .int .i64 0], []⟩).memory Tryz.f5.params.toList Rows.wireToldSpec.vars false (#[.int .i64 0, .slice none 0 0, .slice none 0 0, .int .i64 0] : Array Value).toList 8 = some ([.lit (.int .i64 0), .nil, .nil, .lit (.int .i64 0)], [], places) :=
  ⟨[], by kernel_rfl⟩
set_option maxRecDepth 100000 in
theorem lifted (os : Os) (started : os.Started) (H : Type) (enc : TypeId × Value → H) (F : Stop.Interp) :
    ReturnsInHanded {} Tryz.checked os 5 .any ((OpenSpec.ofChange Rows.wireToldSpec).preRow enc Tryz.prog Tryz.f5 Rows.wireToldRow.domain false Rows.wireToldRow.laid) (((OpenSpec.ofChange Rows.wireToldSpec).at F).post enc Tryz.prog Tryz.f5 false true false false) := by
  obtain ⟨places, hx⟩ := reads os enc
  refine returnsInHanded_of_row (C := Tryz.checked) (s := OpenSpec.ofChange Rows.wireToldSpec) own started (by kernel_rfl) Tryz.func5
    (witness_row_zip (enc := enc) (C := Tryz.checked) false (World.laidAll Tryz.prog os Rows.wireToldRow.laid) #[.int .i64 0, .slice none 0 0, .slice none 0 0, .int .i64 0] (World.laidAll_os _ _ _) (World.shaped_of_ZipB (by kernel_rfl) (by kernel_rfl)) (by kernel_rfl)
      (OpenSpec.preRow_of_cond 8 hx (by kernel_rfl) (fun k hk => by cases hk) (by kernel_rfl) (laid_met os))) ?_
  intro W base args ds gs before hval hW _ _ _ hL hsh _
  exact contract H enc W base args ds gs before hval hW hL hsh
theorem said : Rows.WireToldSaid :=
  OpenClaim.holds_of_cond 5 Tryz.f5 rfl rfl rfl rfl rfl rfl rfl ⟨rfl, rfl, rfl, rfl, rfl⟩ rfl rfl rfl rfl rfl (by kernel_rfl) Tryz.func5 (by kernel_rfl)
    (of_decide_eq_true (by kernel_rfl)) (by unfold Func.isWrapper; first | (rw [if_pos (by decide +kernel)]; kernel_rfl) | (rw [if_neg (by decide +kernel)]; exact ⟨rfl, rfl⟩))
    (fun os started H enc _ F => by rw [OpenClaim.pre_eq_preRow]; exact lifted os started H enc F)
theorem plain (f : FuncId) (fn : Func) (hf : Tryz.pinned.checked.prog.funcNamed "inquest/inquestlaw13.WireTold" = some f) (hfn : Tryz.pinned.checked.prog.funcs[f]? = some fn) :
    true = Tryz.pinned.checked.prog.looks [] ∧ ∀ (j : Nat) t, fn.params[j]? = some t → Tryz.pinned.checked.prog.wantsStandIn t = false := by
  obtain rfl : f = 5 := Option.some.inj ((show Tryz.prog.funcNamed "inquest/inquestlaw13.WireTold" = some 5 by kernel_rfl).symm.trans hf) |>.symm
  obtain rfl : fn = Tryz.f5 := (Option.some.inj (Tryz.func5.symm.trans hfn)).symm
  refine ⟨by kernel_rfl, fun j t ht => ?_⟩
  rw [Tryz.params5] at ht
  have hall : ([3, 22, 22, 3].all fun u => !Tryz.prog.wantsStandIn u) = true := by kernel_rfl
  have hm : t ∈ [3, 22, 22, 3] := by simpa using Array.mem_of_getElem? ht
  exact (show Tryz.prog.wantsStandIn t = false by simpa using List.all_eq_true.1 hall t hm)
/-- the tied card -/
theorem card : Rows.WireToldCardSaid :=
  Claim7.holds_tied_plain_at .later [] _ _ _ _ said (fun _ h => by cases h) (by kernel_rfl) (fun _ h => by cases h) wireTold_row_tie rfl ⟨rfl, rfl⟩ (by kernel_rfl) rfl plain (by kernel_rfl)
end Go.Proofs.YtdameoejigpnhabGreatDoor.wireTold
namespace Go.Proofs.YtdameoejigpnhabGreatDoor
theorem wireTold_holds : Rows.WireToldCardSaid := wireTold.card
#print axioms wireTold_holds
end Go.Proofs.YtdameoejigpnhabGreatDoor
