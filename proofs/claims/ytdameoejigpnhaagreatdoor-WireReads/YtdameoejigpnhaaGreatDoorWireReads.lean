/- For every slice of bytes the law WireReads returns true and the slice reads as it did (P13.3): which request any bytes begin with, or why there is none; they stay. The library's tables are as the program's text lays them (the card ties them). -/
import Derived.Test.YtdameoejigpnhaaGreatDoorTDoor
import Derived.LaidMore
import Derived.Lay
import Derived.Test.YtdameoejigpnhaaGreatDoorWrr
import Derived.Test.YtdameoejigpnhaaGreatDoorWLaw
import Derived.Test.YtdameoejigpnhaaGreatDoorSma
import Derived.WalkKit
import Derived.ShutString
import Derived.ChangeOld
import Derived.Below
namespace Go.Proofs.YtdameoejigpnhaaGreatDoor.wireReads
open Go.ChangeShapes Go.WideShapes Go.ChangeAt Go.RowKit
open Go.ChangeMaps (open_string shut_string)
set_option linter.unusedVariables false

theorem laidOut : laidOutB Tryz.prog = true := by kernel_rfl

/-- WHAT THE WALK IS TOLD OF A SLICE OF INTEGERS THAT CAME IN: it is nil; or it leads to a row of 'cap' cells, the numbers 'zs' (the first 'len' are its elements, the rest its spare room), each fitting its kind. -/
def IsRow (k : IntKind) (w : World) (a : Option Addr) (len cap : Nat) (zs : List Int) : Prop :=
  (a = none ∧ len = 0 ∧ cap = 0 ∧ zs = []) ∨
  ∃ x, a = some x ∧ len ≤ cap ∧ cap ≤ maxLen ∧ zs.length = cap ∧ (∀ i, i < zs.length → w.cell? (x.add i) = some (.int k (zs.getD i 0))) ∧ ∀ n ∈ zs, (Lit.int k n).wf = true


set_option maxRecDepth 100000 in
set_option maxHeartbeats 1000000 in
theorem walk (a0 : Option Addr) (len0 cap0 : Nat) (z0 : List Int) (w : World) (w0 : IsRow .u8 w a0 len0 cap0 z0) (hL : laidMetH Tryz.prog Rows.wireReadsRow.laid w) (hsh : w.ShapedOpen Tryz.prog) :
    Calls Tryz.prog 3 #[.slice a0 len0 cap0] w fun e w' => e = .returned (.bool true) ∧ Below w.heap.size w w' := by
  have HEV := Bx.mk (env_at (plainH hL (by kernel_rfl)) hsh 2 4 5 rfl rfl rfl)
  clear hL hsh
  have hrow : Bts w a0 len0 cap0 (z0.take len0) := Bts.of_row w0
  generalize z0.take len0 = l at hrow
  clear w0
  go_enter Tryz.func3, Tryz.ntmps3
  go_wp2_with fail
  refine (cut_any a0 len0 cap0 4000 l _ hrow (by decide)).mono ?_
  rintro e w' ⟨⟨len, rfl, hl⟩, rfl⟩
  have hlen : len ≤ 4000 := by have := hl.len_eq; rw [List.length_take] at this; omega
  generalize l.take 4000 = m at hl
  clear hrow
  go_wp2_with fail
  refine (copy_any a0 len cap0 m _ hl (by omega)).mono ?_
  rintro e w1 ⟨v, rfl, hown, hb1⟩
  have HL1 := Bx.mk (hl.below hb1)
  have HB1 := Bx.mk hb1
  have hml := hl.len_eq
  obtain ⟨av, cv, hv, hmine⟩ := Bts.of_owns (by rw [← hml] at hown; exact hown) hl.byt
  rw [hml] at hv hmine
  subst hv
  have HM1 := Bx.mk hmine
  clear hown hl hb1 hml hmine
  go_wp2_with fail
  refine (wwhole_any av len cv m _ HM1.out (HEV.out.up HB1.out)).mono ?_
  rintro e w2 ⟨v2, rfl, hy2, ho2, hb2⟩
  obtain ⟨va, vc, rfl, hq2⟩ := wh_body hy2 ho2
  have HL2 := Bx.mk hb2
  have HQ2 := Bx.mk hq2
  have HO2 := Bx.mk ho2
  have HY2 := Bx.mk hy2
  generalize hT : runQ wp0 ws0 m 0 = T at *
  have HTT := Bx.mk hT
  clear hT ho2 hb2 hq2 hy2
  obtain ⟨T1, T2, T3⟩ := T
  have hr3 : Below w2.heap.size w2 (w2.alloc (.cells #[.string T1.m, .string T1.t, .string T1.k, .slice va T1.b.length vc] 26)) := (Below.refl _ _).alloc (Nat.le_refl _) _
  have HR3 : Bx ((w2.alloc (.cells #[.string T1.m, .string T1.t, .string T1.k, .slice va T1.b.length vc] 26)).heap[w2.heap.size]? = some (.cells #[.string T1.m, .string T1.t, .string T1.k, .slice va T1.b.length vc] 26 (0, 0))) := ⟨heap_alloc_new w2 _⟩
  have HL3 := Bx.mk (bstep HL2.out hr3)
  have HQ3 := Bx.mk (HQ2.out.below hr3)
  have HO3 := Bx.mk (owns_below HO2.out hr3)
  clear hr3
  unfold reqV
  simp only
  go_wp2_with fail
  refine (rwholeq_any a0 len cap0 m _ (HL1.out.below HL3.out) (by omega)).mono ?_
  rintro e w4 ⟨v4, rfl, hy4, ho4, hb4⟩
  rw [HTT.out] at hy4 ho4 ⊢
  obtain ⟨vb, vd, rfl, hq4⟩ := wh_body hy4 ho4
  have hr5 : Below w4.heap.size w4 (w4.alloc (.cells #[.string T1.m, .string T1.t, .string T1.k, .slice vb T1.b.length vd] 26)) := (Below.refl _ _).alloc (Nat.le_refl _) _
  have hsz3 : w2.heap.size < (w2.alloc (.cells #[.string T1.m, .string T1.t, .string T1.k, .slice va T1.b.length vc] 26)).heap.size := by simp
  have HR5a : Bx ((w4.alloc (.cells #[.string T1.m, .string T1.t, .string T1.k, .slice vb T1.b.length vd] 26)).heap[w2.heap.size]? = some (.cells #[.string T1.m, .string T1.t, .string T1.k, .slice va T1.b.length vc] 26 (0, 0))) := ⟨by rw [hr5.block _ (Nat.lt_of_lt_of_le hsz3 hb4.size), hb4.block _ hsz3]; exact HR3.out⟩
  have HR5b : Bx ((w4.alloc (.cells #[.string T1.m, .string T1.t, .string T1.k, .slice vb T1.b.length vd] 26)).heap[w4.heap.size]? = some (.cells #[.string T1.m, .string T1.t, .string T1.k, .slice vb T1.b.length vd] 26 (0, 0))) := ⟨heap_alloc_new w4 _⟩
  have HQA := Bx.mk ((HQ3.out.below hb4).below hr5)
  have HQB := Bx.mk (hq4.below hr5)
  have HO5 := Bx.mk (owns_below (owns_below HO3.out hb4) hr5)
  have HL5 := Bx.mk (bstep (bstep HL3.out hb4) hr5)
  have HX5 : Bx (w2.heap.size < w4.heap.size) := ⟨Nat.lt_of_lt_of_le hsz3 hb4.size⟩
  have HS5 : Bx (w4.heap.size ≤ (w4.alloc (.cells #[.string T1.m, .string T1.t, .string T1.k, .slice vb T1.b.length vd] 26)).heap.size) := ⟨hr5.size⟩
  obtain ⟨W5, hW5⟩ : ∃ W5, w4.alloc (.cells #[.string T1.m, .string T1.t, .string T1.k, .slice vb T1.b.length vd] 26) = W5 := ⟨_, rfl⟩
  rw [hW5] at HR5a HR5b HQA HQB HL5 HO5 HS5
  have HW5 := Bx.mk hW5
  have HSM : Bx (smW T1 T1 = true) := ⟨(smW_iff _ _).2 rfl⟩
  have k2 : ((T2 : Int) == (T2 : Int)) = true := by simp
  have k3 : (T3 == T3) = true := by simp
  obtain ⟨N2, hN2⟩ : ∃ N2 : Int, (T2 : Int) = N2 := ⟨_, rfl⟩
  clear hr5 hsz3 ho4 hb4 hq4 hy4 hW5 HQ3 HR3 HQ2 HO2 HO3 HL3 HL2
  unfold reqV
  simp only
  rw [hN2]
  rw [hN2] at k2
  clear hN2
  go_wp2_with (first
    | (rw [HW5.out]; have HA6 := HR5a; have HB6 := HR5b; clear HW5)
    | (refine wpList_load_row rfl 26 (.tmp 4) rfl w2.heap.size rfl 26 #[.string T1.m, .string T1.t, .string T1.k, .slice va T1.b.length vc] (0, 0) _ HA6.out Tryz.underlying26 rfl req_info ?_)
    | (refine wpList_load_row rfl 26 (.tmp 7) rfl w4.heap.size rfl 26 #[.string T1.m, .string T1.t, .string T1.k, .slice vb T1.b.length vd] (0, 0) _ HB6.out Tryz.underlying26 rfl req_info ?_))
  refine (rsame_any T1 T1 va vb _ _ vc vd W5 HQA.out HQB.out).mono ?_
  rintro e w6 ⟨rfl, hb6⟩
  rw [HSM.out]
  have HL6 := Bx.mk (bstep HL5.out hb6)
  have HR6 : Bx (w6.heap[w2.heap.size]? = some (.cells #[.string T1.m, .string T1.t, .string T1.k, .slice va T1.b.length vc] 26 (0, 0))) := ⟨by rw [hb6.block _ (Array.getElem?_eq_some_iff.1 HR5a.out).1]; exact HR5a.out⟩
  have HO6 := Bx.mk (owns_below HO5.out hb6)
  have HNE : Bx (0 < T1.b.length → ∀ p, va = some p → p.block ≠ w2.heap.size) := ⟨bts_ne2 HQA.out HR5a.out (req_noint _ _ _ _ _ _)⟩
  have hnb : T1.b.length ≤ 9223372036854775807 := by have h1 := HQA.out.le_cap; have h2 := HQA.out.cap_le; unfold maxLen at h2; omega
  clear hb6 HL5 HR5a HR5b HO5 HQA HQB HX5 HS5
  generalize hNB : T1.b.length = NB at *
  generalize hx3 : bv T1.b = xs0 at *
  obtain ⟨c0, hc0, hxc⟩ : ∃ c0 : List Int, c0.length = NB ∧ xs0 = bv c0 := ⟨T1.b, hNB, hx3.symm⟩
  rw [hxc] at HO6
  clear hxc hNB hx3
  go_wp2
  go_loopw [10] (fun i wr => ∃ (k : Nat) (cc : List Int), k ≤ NB ∧ i = .int .i64 k ∧ cc.length = NB ∧ Bx (wr.ownsRow w1.heap.size 5 1 (.slice va NB vc) NB (bv cc)) ∧ Bx (Below w1.heap.size w1 wr) ∧ Bx (wr.heap[w2.heap.size]? = some (.cells #[.string T1.m, .string T1.t, .string T1.k, .slice va NB vc] 26 (0, 0)))) (fun i _ => NB - (intOf i).toNat)
  case atStart => exact ⟨0, c0, Nat.zero_le _, rfl, hc0, HO6, HL6, HR6⟩
  case round =>
    clear HO6 HL6 HR6
    obtain ⟨k, cc, hk, rfl, hcc, HO, HL, HR⟩ := hrel
    have x3 : wr.cell? ⟨w2.heap.size, 3, none⟩ = some (.slice va NB vc) := by rw [cell_of_row wr w2.heap.size 3 _ _ (0, 0) HR.out]; rfl
    by_cases hlt : k < NB
    · have hkI : (k : Int) < (NB : Int) := by omega
      obtain ⟨gg, cap2, hgv, hgb, hgl⟩ := owns_form HO.out (by omega)
      cases hgv
      have hck : wr.cell? ⟨gg, k, none⟩ = some (.int .u8 (cc.getD k 0)) := by
        rw [HO.out.cellAt k (by omega), bv_get, List.getElem?_eq_getElem (by rw [hcc]; exact hlt), List.getD_eq_getElem?_getD, List.getElem?_eq_getElem (by rw [hcc]; exact hlt)]; rfl
      have hfr : wr.frozen? ⟨gg, k, none⟩ = false := by
        obtain ⟨_, h2⟩ := HO.out
        rcases h2 with ⟨h3, _⟩ | ⟨g3, cap3, cur, hv3, _, hh, _⟩
        · cases h3
        · cases hv3; exact frozen_of_row _ _ k _ _ hh
      have HOT : Bx ((wr.setCell ⟨gg, k, none⟩ (.int .u8 7)).ownsRow w1.heap.size 5 1 (.slice (some ⟨gg, 0, none⟩) NB vc) NB (bv (cc.set k 7))) := ⟨by have h9 := (HO.out.stored k (.int .u8 7)).1; rwa [show (bv cc).set k (.int .u8 7) = bv (cc.set k 7) from (List.map_set ..).symm] at h9⟩
      have HLT : Bx (Below w1.heap.size w1 (wr.setCell ⟨gg, k, none⟩ (.int .u8 7))) := ⟨below_setCells (vs := [.int .u8 7]) (o := k) HL.out gg hgb⟩
      have HRT : Bx ((wr.setCell ⟨gg, k, none⟩ (.int .u8 7)).heap[w2.heap.size]? = some (.cells #[.string T1.m, .string T1.t, .string T1.k, .slice (some ⟨gg, 0, none⟩) NB vc] 26 (0, 0))) := ⟨(setCells_other (vs := [.int .u8 7]) (o := k) (fun e => HNE.out (by omega) _ rfl e.symm)).trans HR.out⟩
      have hcs : (cc.set k 7).length = NB := by rw [List.length_set]; exact hcc
      clear hcc
      go_wp2
      go_roundw
      case rel => exact ⟨k + 1, cc.set k 7, by omega, by go_num, hcs, HOT, HLT, HRT⟩
      case measure => simp [intOf]; omega
    · have hge : ¬ (k : Int) < (NB : Int) := by omega
      have HFL := Bx.mk (bstep HB1.out HL.out)
      have HS1 := Bx.mk (HM1.out.below HL.out)
      have HS2 := Bx.mk (HL1.out.below HL.out)
      go_wp2_with fail
      refine (same_yes av a0 len len cv cap0 m _ HS1.out HS2.out).mono ?_
      rintro e w7 ⟨rfl, q, rfl⟩
      have HB7 := Bx.mk (⟨HFL.out.os, HFL.out.tape, HFL.out.output, HFL.out.size, HFL.out.block⟩ : Below w.heap.size w (wr.drewN q))
      go_wp2_with fail
      refine (wlives_any _ (HEV.out.up HB7.out)).mono ?_
      rintro e w8 ⟨rfl, hb8⟩
      have HFIN := Bx.mk (bstep HB7.out hb8)
      clear hb8
      go_wp2
      go_ret
      exact ⟨rfl, HFIN.out⟩

set_option maxRecDepth 100000 in
/-- what the walk gives, for every argument and every world that holds the table -/
theorem contract (H : Type) (enc : TypeId × Value → H) (W : World) (base : Nat) (args : Array Value) (ds gs : List (DataW H)) (before : List MemPlace)
    (hval0 : ∀ (j : Nat) t v, Tryz.f3.params[j]? = some t → args[j]? = some v → Value.okWide Tryz.prog W .any base t v)
    (hW : DataW.Whole enc Tryz.prog Tryz.f3.params.toList Rows.wireReadsSpec.vars false W args.toList ds gs before) (hL : laidMetH Tryz.prog Rows.wireReadsRow.laid W) (hsh : W.ShapedOpen Tryz.prog) :
    Calls Tryz.prog 3 args W fun e W' => ∃ v, e = .returned v ∧ Rows.wireReadsSpec.post enc Tryz.prog Tryz.f3 false true false false W args v W' := by
  have hval : ∀ (j : Nat) t v, Tryz.f3.params[j]? = some t → args[j]? = some v → Value.okWide Tryz.prog W .any base t v := hval0
  have hW' := hW
  obtain ⟨p, q, hA0, hV, rfl, hfz, hnd⟩ := hW
  have hA : DataW.TrodAll enc Tryz.prog W 0 (fun _ => true) true Tryz.f3.params.toList args.toList ds p := hA0
  rw [Tryz.params3] at hA hval
  obtain ⟨v0, vs0, d0, ds0, p0, q0, hargs, rfl, rfl, h0, r0⟩ := trodAll_cons hA
  obtain ⟨rfl, rfl, rfl⟩ := trodAll_nil r0
  obtain rfl : args = #[v0] := by cases args; simp_all
  obtain ⟨rfl, rfl⟩ := trodVars_none hV
  obtain ⟨a0, len0, cap0, rfl⟩ := okWide_slice Tryz.underlying22 (hval 0 22 v0 rfl rfl)
  have k0 := h0
  have lt0 : ∀ x ∈ p0, x.block < W.heap.size := by obtain ⟨m, hm⟩ := k0; exact DataW.trod_lt m _ _ _ hm
  obtain ⟨z0, w0⟩ : ∃ zs, IsRow .u8 W a0 len0 cap0 zs := by
    obtain ⟨fuel, hf⟩ := h0
    rcases open_ints Tryz.underlying22 Tryz.underlying5 (by kernel_rfl) hf with ⟨hcs, _⟩ | ⟨x, l, c, zs, hcs, _, hl, hm, hz, _, hcell, hwz⟩
    · simp [Value.cells] at hcs
      obtain ⟨rfl, rfl, rfl⟩ := hcs
      exact ⟨[], .inl ⟨rfl, rfl, rfl, rfl⟩⟩
    · simp [Value.cells] at hcs
      obtain ⟨rfl, rfl, rfl⟩ := hcs
      exact ⟨zs, .inr ⟨_, rfl, hl, hm, by simpa using hz, hcell, hwz⟩⟩
  clear hA0 hval0
  refine (walk a0 len0 cap0 z0 W w0 hL hsh).mono fun e W' ⟨he, bel⟩ => ?_
  subst he
  exact ⟨_, rfl, _, _, _, [], _, [], hW', trodAll_mk1 (shut_bool Tryz.underlying4 _), (trodAll_cons_mk (Below.trod laidOut (by kernel_rfl) (of_decide_eq_true (by kernel_rfl)) k0 bel lt0) trodAll_mk0), rfl, bel.frame _, fun h => by cases h⟩

set_option maxRecDepth 100000 in
theorem laid_met (os : Os) : laidMet Tryz.prog Rows.wireReadsRow.laid ((World.laidAll Tryz.prog os Rows.wireReadsRow.laid).forCall (fun _ _ => 0) ⟨#[], #[.slice none 0 0], []⟩).memory :=
  laidMet_laidAll _ (by kernel_rfl) (by kernel_rfl)
set_option maxRecDepth 100000 in
theorem reads (os : Os) {H : Type} (enc : TypeId × Value → H) : ∃ places, DataW.whole enc Tryz.prog ((World.laidAll Tryz.prog os Rows.wireReadsRow.laid).forCall (fun _ _ => 0) ⟨#[], #[.slice none 0 0], []⟩).memory Tryz.f3.params.toList Rows.wireReadsSpec.vars false (#[.slice none 0 0] : Array Value).toList 8 = some ([.nil], [], places) :=
  ⟨[], by kernel_rfl⟩
set_option maxRecDepth 100000 in
theorem lifted (os : Os) (started : os.Started) (H : Type) (enc : TypeId × Value → H) (F : Stop.Interp) :
    ReturnsInHanded {} Tryz.checked os 3 .any ((OpenSpec.ofChange Rows.wireReadsSpec).preRow enc Tryz.prog Tryz.f3 Rows.wireReadsRow.domain false Rows.wireReadsRow.laid) (((OpenSpec.ofChange Rows.wireReadsSpec).at F).post enc Tryz.prog Tryz.f3 false true false false) := by
  obtain ⟨places, hx⟩ := reads os enc
  refine returnsInHanded_of_row (C := Tryz.checked) (s := OpenSpec.ofChange Rows.wireReadsSpec) own started (by kernel_rfl) Tryz.func3
    (witness_row_zip (enc := enc) (C := Tryz.checked) false (World.laidAll Tryz.prog os Rows.wireReadsRow.laid) #[.slice none 0 0] (World.laidAll_os _ _ _) (World.shaped_of_ZipB (by kernel_rfl) (by kernel_rfl)) (by kernel_rfl)
      (OpenSpec.preRow_of_cond 8 hx (by kernel_rfl) (fun k hk => by cases hk) (by kernel_rfl) (laid_met os))) ?_
  intro W base args ds gs before hval hW _ _ _ hL hsh _
  exact contract H enc W base args ds gs before hval hW hL hsh
theorem said : Rows.WireReadsSaid :=
  OpenClaim.holds_of_cond 3 Tryz.f3 rfl rfl rfl rfl rfl rfl rfl ⟨rfl, rfl, rfl, rfl, rfl⟩ rfl rfl rfl rfl rfl (by kernel_rfl) Tryz.func3 (by kernel_rfl)
    (of_decide_eq_true (by kernel_rfl)) (by unfold Func.isWrapper; first | (rw [if_pos (by decide +kernel)]; kernel_rfl) | (rw [if_neg (by decide +kernel)]; exact ⟨rfl, rfl⟩))
    (fun os started H enc _ F => by rw [OpenClaim.pre_eq_preRow]; exact lifted os started H enc F)
theorem plain (f : FuncId) (fn : Func) (hf : Tryz.pinned.checked.prog.funcNamed "inquest/inquestlaw13.WireReads" = some f) (hfn : Tryz.pinned.checked.prog.funcs[f]? = some fn) :
    true = Tryz.pinned.checked.prog.looks [] ∧ ∀ (j : Nat) t, fn.params[j]? = some t → Tryz.pinned.checked.prog.wantsStandIn t = false := by
  obtain rfl : f = 3 := Option.some.inj ((show Tryz.prog.funcNamed "inquest/inquestlaw13.WireReads" = some 3 by kernel_rfl).symm.trans hf) |>.symm
  obtain rfl : fn = Tryz.f3 := (Option.some.inj (Tryz.func3.symm.trans hfn)).symm
  refine ⟨by kernel_rfl, fun j t ht => ?_⟩
  rw [Tryz.params3] at ht
  have hall : ([22].all fun u => !Tryz.prog.wantsStandIn u) = true := by kernel_rfl
  have hm : t ∈ [22] := by simpa using Array.mem_of_getElem? ht
  exact (show Tryz.prog.wantsStandIn t = false by simpa using List.all_eq_true.1 hall t hm)
/-- the tied card -/
theorem card : Rows.WireReadsCardSaid :=
  Claim7.holds_tied_plain_at .later [] _ _ _ _ said (fun _ h => by cases h) (by kernel_rfl) (fun _ h => by cases h) wireReads_row_tie rfl ⟨rfl, rfl⟩ (by kernel_rfl) rfl plain (by kernel_rfl)
end Go.Proofs.YtdameoejigpnhaaGreatDoor.wireReads
namespace Go.Proofs.YtdameoejigpnhaaGreatDoor
theorem wireReads_holds : Rows.WireReadsCardSaid := wireReads.card
#print axioms wireReads_holds
end Go.Proofs.YtdameoejigpnhaaGreatDoor
