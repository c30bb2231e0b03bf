/- TenantNobody: what a tenant answers that no call made (P22.3). No condition. -/
import Derived.Test.YtipakjenggeflaaGreatDoorPkac
import Derived.Test.YtipakjenggeflaaGreatDoorPkay
import Derived.Test.YtipakjenggeflaaGreatDoorPkax
import Derived.Test.YtipakjenggeflaaGreatDoorPkau
import Derived.Test.YtipakjenggeflaaGreatDoorPkaz
import Derived.LaidMore
import Derived.Lay
import Derived.WalkKit
import Derived.ShutString
import Derived.ChangeOld
import Derived.Below
namespace Go.Proofs.YtipakjenggeflaaGreatDoor.tenantNobody
open Go.ChangeShapes Go.WideShapes Go.ChangeAt Go.RowKit
open Go.ChangeMaps (open_string shut_string)
set_option linter.unusedVariables false

theorem laidOut : laidOutB Tryz.prog = true := fx_laid
theorem build_t22 (W : World) : (Instr.build 84 #[]).run Tryz.prog W = .ok (.agg #[.int .i64 0, .int .i64 0, .int .i64 0, .int .i64 0, .pointer none, .pointer none, .pointer none, .pointer none]) W := by kernel_rfl
/-- the law's variable of an ask -/
def nbR (w wr : World) (ga : Nat) (C : Array Value) : Prop := wr.heap[ga]? = some (.cells C 36 (0, 0)) ∧ Below w.heap.size w wr
theorem nbR.step {w wr w1 : World} {ga : Nat} {C : Array Value} (h : nbR w wr ga C) (hb : Below wr.heap.size wr w1) : nbR w w1 ga C := ⟨(hb.block ga (Array.getElem?_eq_some_iff.1 h.1).1).trans h.1, bstep h.2 hb⟩
set_option maxRecDepth 100000 in
set_option maxHeartbeats 1000000 in
theorem walk (a : As) (a0 : Option Addr) (n0 c0 : Nat) (n : Int) (w : World) (ha : AskI w a a0 n0 c0) (hn : I64 n) (hL : laidMetH Tryz.prog Rows.tenantNobodyRow.laid w) (hsh : w.ShapedOpen Tryz.prog) :
    Calls Tryz.prog 7 #[.agg (askV a a0 n0 c0), .int .i64 n] w fun e w' => e = .returned (.bool true) ∧ Below w.heap.size w w' := by
  have HLP := plainH hL (by kernel_rfl)
  have HTB : Bx (Tbs w.heap.size w) := ⟨Tbs.new (tens_at HLP 2 rfl) (errs_at HLP 4 5 rfl rfl) (tab_at HLP 6 rfl)⟩
  have HN := Bx.mk hn
  have HA : Bx (AskI (w.alloc (.cells (askV a a0 n0 c0) 36)) a a0 n0 c0) := ⟨ha.below ((Below.refl _ _).alloc (Nat.le_refl _) _)⟩
  have HR := Bx.mk (heap_alloc_new w (.cells (askV a a0 n0 c0) 36))
  have HB : Bx (Below w.heap.size w (w.alloc (.cells (askV a a0 n0 c0) 36))) := ⟨(Below.refl _ _).alloc (Nat.le_refl _) _⟩
  obtain ⟨ga, HGA⟩ : ∃ ga, Bx (w.heap.size = ga) := ⟨_, ⟨rfl⟩⟩
  rw [HGA.out] at HR
  clear hL hsh ha hn HLP
  obtain ⟨xk, nm0, sp0, xb, xA, xB⟩ := a
  go_enter Tryz.func7, Tryz.ntmps7
  go_upto_region 1 with fail
  rw [HGA.out]
  generalize w.alloc (.cells #[.int .i64 xk, .string nm0, .string sp0, .slice a0 n0 c0, .int .i64 xA, .int .i64 xB] 36) = w1 at HA HR HB ⊢
  go_wp2_with (refine wpList_load_row rfl 36 (.tmp 2) rfl ga rfl 36 (askV ⟨xk, nm0, sp0, xb, xA, xB⟩ a0 n0 c0) (0, 0) _ HR.out Tryz.underlying36 rfl ask_info22 ?_)
  refine (acut_any _ a0 n0 c0 _ HA.out).mono ?_
  rintro e w2 ⟨ab, m4, c4, rfl, hm2, _, _, hb2⟩
  have HSZ : Bx ((ctA ⟨xk, nm0, sp0, xb, xA, xB⟩).nm.size ≤ 30) := ⟨ctT_size _ _⟩
  have HR2 := Bx.mk ((hb2.block ga (Array.getElem?_eq_some_iff.1 HR.out).1).trans HR.out)
  have HB2 := Bx.mk (bstep HB.out hb2)
  have eA : askV (ctA ⟨xk, nm0, sp0, xb, xA, xB⟩) ab m4 c4 = #[.int .i64 xk, .string (ctA ⟨xk, nm0, sp0, xb, xA, xB⟩).nm, .string (ctA ⟨xk, nm0, sp0, xb, xA, xB⟩).sp, .slice ab m4 c4, .int .i64 xA, .int .i64 xB] := rfl
  rw [eA]
  generalize (ctA ⟨xk, nm0, sp0, xb, xA, xB⟩).nm = nm at HSZ ⊢
  generalize (ctA ⟨xk, nm0, sp0, xb, xA, xB⟩).sp = sp at ⊢
  clear hb2 hm2 HR HA HB eA
  have HTR : Bx (w2.there ga 0 6) := ⟨there_row HR2.out⟩
  have HST : Bx ((w2.setCells ga 0 #[.int .i64 xk, .string nm, .string sp, .slice ab m4 c4, .int .i64 xA, .int .i64 xB].toList).heap[ga]? = some (.cells #[.int .i64 xk, .string nm, .string sp, .slice ab m4 c4, .int .i64 xA, .int .i64 xB] 36 (0, 0))) := ⟨heap_stored HR2.out rfl⟩
  have HB3 : Bx (Below w.heap.size w (w2.setCells ga 0 #[.int .i64 xk, .string nm, .string sp, .slice ab m4 c4, .int .i64 xA, .int .i64 xB].toList)) := ⟨below_setCells HB2.out _ (by have := HGA.out; omega) _ 0⟩
  go_upto_region 2 with (refine wpList_store_mid rfl 36 (.tmp 2) (.tmp 13) rfl ga 0 #[.int .i64 xk, .string nm, .string sp, .slice ab m4 c4, .int .i64 xA, .int .i64 xB] rfl rfl HTR.out ask_info22 (by simp [Value.oneCell']) ?_)
  generalize w2.setCells ga 0 #[.int .i64 xk, .string nm, .string sp, .slice ab m4 c4, .int .i64 xA, .int .i64 xB].toList = w3 at HST HB3 ⊢
  clear HTR HR2 HB2
  have x1 := cell_of_row _ ga 1 _ _ (0, 0) HST.out
  have f1 := frozen_of_row _ ga 1 _ _ HST.out
  go_wp2_with fail
  refine (scutT nm 30 _ (by have := HSZ.out; omega)).mono ?_
  rintro e wz ⟨rfl, hwz⟩
  have hwz2 := hwz.symm
  subst hwz2
  clear hwz
  rw [ctT_id HSZ.out]
  have HR4 := Bx.mk (heap_setCell_same w3 ga 1 _ _ (.string nm) HST.out)
  have HB4 : Bx (Below w.heap.size w (w3.setCell ⟨ga, 1, none⟩ (.string nm))) := ⟨HB3.out.setCell (p := ⟨ga, 1, none⟩) (by rw [HGA.out]; exact Nat.le_refl _) _⟩
  go_upto_region 3 with fail
  generalize w3.setCell ⟨ga, 1, none⟩ (.string nm) = w4 at HR4 HB4 ⊢
  clear HST HB3 x1 f1
  have HK0 : Bx (nbR w w4 ga #[.int .i64 xk, .string nm, .string sp, .slice ab m4 c4, .int .i64 xA, .int .i64 xB]) := ⟨HR4.out, HB4.out⟩
  clear HR4 HB4
  have hbt := build_t22
  have hbn := build_nl
  go_wp2_with fail
  go_loopw [5] (fun i wr => ∃ k : Nat, k ≤ 2 ∧ i = .int .i64 k ∧ Bx (nbR w wr ga #[.int .i64 xk, .string nm, .string sp, .slice ab m4 c4, .int .i64 xA, .int .i64 xB])) (fun i _ => 2 - (intOf i).toNat)
  case atStart => exact ⟨0, by omega, rfl, HK0⟩
  case round =>
    clear HK0
    obtain ⟨k, hk, rfl, HK⟩ := hrel
    by_cases hlt : k < 2
    · by_cases h0 : k = 0
      · subst h0
        go_wp2_with (refine wpList_load_row rfl 36 (.tmp 2) rfl ga rfl 36 #[.int .i64 xk, .string nm, .string sp, .slice ab m4 c4, .int .i64 xA, .int .i64 xB] (0, 0) _ HK.out.1 Tryz.underlying36 rfl ask_info22 ?_)
        refine (do22_no (.inl rfl : NoTn _ none) xk xA xB n nm sp ab m4 c4).mono ?_
        rintro e w5 ⟨rfl, hb5⟩
        have HK5 := Bx.mk (HK.out.step hb5)
        have HNO5 : Bx (NoTn w5 none) := ⟨NoTn.below (.inl rfl : NoTn _ none) hb5⟩
        clear hb5 HK 
        have hb6 : Below w5.heap.size w5 (w5.alloc (.cells #[.int .i64 503, .slice none 0 0] 44)) := (Below.refl _ _).alloc (Nat.le_refl _) _
        have HK6 := Bx.mk (HK5.out.step hb6)
        have HNO6 := Bx.mk (HNO5.out.below hb6)
        have HR6 := Bx.mk (row2_new w5 (.int .i64 503) (.slice none 0 0) 44)
        obtain ⟨g6, HG6⟩ : ∃ g, Bx (w5.heap.size = g) := ⟨_, ⟨rfl⟩⟩
        rw [HG6.out] at HR6
        clear hb6 HK5 HNO5
        go_upto_region 10 with fail
        rw [HG6.out]
        generalize w5.alloc (.cells #[.int .i64 503, .slice none 0 0] 44) = w6 at HK6 HNO6 HR6 ⊢
        have x0 := cell_of_row _ g6 0 _ _ (0, 0) HR6.out
        have x1 := cell_of_row _ g6 1 _ _ (0, 0) HR6.out
        clear HR6
        go_wp2_with fail
        refine (step22_no HNO6.out n).mono ?_
        rintro e wz ⟨rfl, hwz⟩
        have hwz2 := hwz.symm
        subst hwz2
        clear hwz
        go_wp2_with fail
        refine (wants22_no HNO6.out).mono ?_
        rintro e wz ⟨rfl, hwz⟩
        have hwz2 := hwz.symm
        subst hwz2
        clear hwz
        go_wp2_with fail
        refine (ledger22_no HNO6.out).mono ?_
        rintro e wz ⟨rfl, hwz⟩
        have hwz2 := hwz.symm
        subst hwz2
        clear hwz
        go_wp2_with fail
        refine (store22_no HNO6.out).mono ?_
        rintro e wz ⟨rfl, hwz⟩
        have hwz2 := hwz.symm
        subst hwz2
        clear hwz x0 x1
        go_wp2_with fail
        go_roundw
        case rel => exact ⟨1, by omega, rfl, HK6⟩
        case measure => simp [intOf]
      · obtain rfl : k = 1 := by omega
        have hb7 : Below wr.heap.size wr (wr.alloc (.cells #[.int .i64 0, .int .i64 0, .int .i64 0, .int .i64 0, .pointer none, .pointer none, .pointer none, .pointer none] 84)) := (Below.refl _ _).alloc (Nat.le_refl _) _
        have HK7 := Bx.mk (HK.out.step hb7)
        have HRT := heap_alloc_new wr (.cells #[.int .i64 0, .int .i64 0, .int .i64 0, .int .i64 0, .pointer none, .pointer none, .pointer none, .pointer none] 84)
        have HNT : Bx (NoTn (wr.alloc (.cells #[.int .i64 0, .int .i64 0, .int .i64 0, .int .i64 0, .pointer none, .pointer none, .pointer none, .pointer none] 84)) (some ⟨wr.heap.size, 0, none⟩)) := ⟨.inr ⟨_, rfl, cell_of_row _ _ 4 _ _ (0, 0) HRT, by simp⟩⟩
        clear hb7 HRT HK h0
        go_upto_region 9 with fail
        generalize wr.alloc (.cells #[.int .i64 0, .int .i64 0, .int .i64 0, .int .i64 0, .pointer none, .pointer none, .pointer none, .pointer none] 84) = w8 at HK7 HNT ⊢
        generalize wr.heap.size = gT at HNT ⊢
        have HK := HK7
        clear HK7
        go_wp2_with (refine wpList_load_row rfl 36 (.tmp 2) rfl ga rfl 36 #[.int .i64 xk, .string nm, .string sp, .slice ab m4 c4, .int .i64 xA, .int .i64 xB] (0, 0) _ HK.out.1 Tryz.underlying36 rfl ask_info22 ?_)
        refine (do22_no HNT.out xk xA xB n nm sp ab m4 c4).mono ?_
        rintro e w5 ⟨rfl, hb5⟩
        have HK5 := Bx.mk (HK.out.step hb5)
        have HNO5 : Bx (NoTn w5 (some ⟨gT, 0, none⟩)) := ⟨NoTn.below HNT.out hb5⟩
        clear hb5 HK HNT
        have hb6 : Below w5.heap.size w5 (w5.alloc (.cells #[.int .i64 503, .slice none 0 0] 44)) := (Below.refl _ _).alloc (Nat.le_refl _) _
        have HK6 := Bx.mk (HK5.out.step hb6)
        have HNO6 := Bx.mk (HNO5.out.below hb6)
        have HR6 := Bx.mk (row2_new w5 (.int .i64 503) (.slice none 0 0) 44)
        obtain ⟨g6, HG6⟩ : ∃ g, Bx (w5.heap.size = g) := ⟨_, ⟨rfl⟩⟩
        rw [HG6.out] at HR6
        clear hb6 HK5 HNO5
        go_upto_region 10 with fail
        rw [HG6.out]
        generalize w5.alloc (.cells #[.int .i64 503, .slice none 0 0] 44) = w6 at HK6 HNO6 HR6 ⊢
        have x0 := cell_of_row _ g6 0 _ _ (0, 0) HR6.out
        have x1 := cell_of_row _ g6 1 _ _ (0, 0) HR6.out
        clear HR6
        go_wp2_with fail
        refine (step22_no HNO6.out n).mono ?_
        rintro e wz ⟨rfl, hwz⟩
        have hwz2 := hwz.symm
        subst hwz2
        clear hwz
        go_wp2_with fail
        refine (wants22_no HNO6.out).mono ?_
        rintro e wz ⟨rfl, hwz⟩
        have hwz2 := hwz.symm
        subst hwz2
        clear hwz
        go_wp2_with fail
        refine (ledger22_no HNO6.out).mono ?_
        rintro e wz ⟨rfl, hwz⟩
        have hwz2 := hwz.symm
        subst hwz2
        clear hwz
        go_wp2_with fail
        refine (store22_no HNO6.out).mono ?_
        rintro e wz ⟨rfl, hwz⟩
        have hwz2 := hwz.symm
        subst hwz2
        clear hwz x0 x1
        go_wp2_with fail
        go_roundw
        case rel => exact ⟨2, by omega, rfl, HK6⟩
        case measure => simp [intOf]
    · have hlI : ¬ (k : Int) < 2 := by omega
      go_wp2_with fail
      refine (open22_nil _).mono ?_
      rintro e w9 ⟨rfl, hb9⟩
      have HB9 := Bx.mk (bstep HK.out.2 hb9)
      clear hb9 HK
      go_wp2_with fail
      refine (lives22_any _ (HTB.out.low HB9.out).upL).mono ?_
      rintro e wA ⟨rfl, hbA⟩
      have HF := Bx.mk (bstep HB9.out hbA)
      clear hbA
      go_wp2_with fail
      go_ret
      exact ⟨rfl, HF.out⟩
set_option maxRecDepth 100000 in
/-- what the walk gives, for every argument and every world that holds the table -/
theorem contract (H : Type) (enc : TypeId × Value → H) (W : World) (base : Nat) (args : Array Value) (ds gs : List (DataW H)) (before : List MemPlace)
    (hval0 : ∀ (j : Nat) t v, Tryz.f7.params[j]? = some t → args[j]? = some v → Value.okWide Tryz.prog W .any base t v)
    (hW : DataW.Whole enc Tryz.prog Tryz.f7.params.toList Rows.tenantNobodySpec.vars false W args.toList ds gs before) (hL : laidMetH Tryz.prog Rows.tenantNobodyRow.laid W) (hsh : W.ShapedOpen Tryz.prog) :
    Calls Tryz.prog 7 args W fun e W' => ∃ v, e = .returned v ∧ Rows.tenantNobodySpec.post enc Tryz.prog Tryz.f7 false true false false W args v W' := by
  have hval : ∀ (j : Nat) t v, Tryz.f7.params[j]? = some t → args[j]? = some v → Value.okWide Tryz.prog W .any base t v := hval0
  have hW' := hW
  obtain ⟨p, q, hA0, hV, rfl, hfz, hnd⟩ := hW
  have hA : DataW.TrodAll enc Tryz.prog W 0 (fun _ => true) true Tryz.f7.params.toList args.toList ds p := hA0
  rw [Tryz.params7] at hA hval
  obtain ⟨v0, vs0, d0, ds0, p0, q0, hargs, rfl, rfl, h0, r0⟩ := trodAll_cons hA
  obtain ⟨v1, vs1, d1, ds1, p1, q1, rfl, rfl, rfl, h1, r1⟩ := trodAll_cons r0
  obtain ⟨rfl, rfl, rfl⟩ := trodAll_nil r1
  obtain rfl : args = #[v0, v1] := by cases args; simp_all
  obtain ⟨rfl, rfl⟩ := trodVars_none hV
  have k0 := h0
  have lt0 : ∀ x ∈ p0, x.block < W.heap.size := by obtain ⟨m, hm⟩ := k0; exact DataW.trod_lt m _ _ _ hm
  have k1 := h1
  have lt1 : ∀ x ∈ p1, x.block < W.heap.size := by obtain ⟨m, hm⟩ := k1; exact DataW.trod_lt m _ _ _ hm
  obtain ⟨a, a0, n0, c0, rfl, ha⟩ := open_ask (hval 0 36 v0 rfl rfl) h0
  obtain ⟨n, rfl, hn⟩ := open_i64 (hval 1 3 v1 rfl rfl) h1
  clear hA0 hval0
  refine (walk a a0 n0 c0 n W ha hn hL hsh).mono fun e W' ⟨he, bel⟩ => ?_
  subst he
  exact ⟨_, rfl, _, _, _, [], _, [], hW', trodAll_mk1 (shut_bool Tryz.underlying4 _), (trodAll_cons_mk (Below.trod laidOut (by kernel_rfl) (of_decide_eq_true (by kernel_rfl)) k0 bel lt0) (trodAll_cons_mk (Below.trod laidOut (by kernel_rfl) (of_decide_eq_true (by kernel_rfl)) k1 bel lt1) trodAll_mk0)), rfl, bel.frame _, fun h => by cases h⟩
set_option maxRecDepth 100000 in
theorem laid_met (os : Os) : laidMet Tryz.prog Rows.tenantNobodyRow.laid ((World.laidAll Tryz.prog os Rows.tenantNobodyRow.laid).forCall (fun _ _ => 0) ⟨#[], #[.agg (askV as0 none 0 0), .int .i64 0], []⟩).memory :=
  laidMet_laidAll _ (by kernel_rfl) (by kernel_rfl)
set_option maxRecDepth 100000 in
theorem reads (os : Os) {H : Type} (enc : TypeId × Value → H) : ∃ places, DataW.whole enc Tryz.prog ((World.laidAll Tryz.prog os Rows.tenantNobodyRow.laid).forCall (fun _ _ => 0) ⟨#[], #[.agg (askV as0 none 0 0), .int .i64 0], []⟩).memory Tryz.f7.params.toList Rows.tenantNobodySpec.vars false (#[.agg (askV as0 none 0 0), .int .i64 0] : Array Value).toList 8 = some ([.agg [.lit (.int .i64 0), .lit (.string []), .lit (.string []), .nil, .lit (.int .i64 0), .lit (.int .i64 0)], .lit (.int .i64 0)], [], places) :=
  ⟨[], by kernel_rfl⟩
set_option maxRecDepth 100000 in
theorem lifted (os : Os) (started : os.Started) (H : Type) (enc : TypeId × Value → H) (F : Stop.Interp) :
    ReturnsInHanded {} Tryz.checked os 7 .any ((OpenSpec.ofChange Rows.tenantNobodySpec).preRow enc Tryz.prog Tryz.f7 Rows.tenantNobodyRow.domain false Rows.tenantNobodyRow.laid) (((OpenSpec.ofChange Rows.tenantNobodySpec).at F).post enc Tryz.prog Tryz.f7 false true false false) := by
  obtain ⟨places, hx⟩ := reads os enc
  refine returnsInHanded_of_row (C := Tryz.checked) (s := OpenSpec.ofChange Rows.tenantNobodySpec) own started (by kernel_rfl) Tryz.func7
    (witness_row_zip (enc := enc) (C := Tryz.checked) false (World.laidAll Tryz.prog os Rows.tenantNobodyRow.laid) #[.agg (askV as0 none 0 0), .int .i64 0] (World.laidAll_os _ _ _) (World.shaped_of_ZipB (by kernel_rfl) (by kernel_rfl)) (by kernel_rfl)
      (OpenSpec.preRow_of_cond 8 hx (by kernel_rfl) (fun k hk => by cases hk) (by kernel_rfl) (laid_met os))) ?_
  intro W base args ds gs before hval hW _ _ _ hL hsh _
  exact contract H enc W base args ds gs before hval hW hL hsh
set_option maxRecDepth 100000 in
theorem fx_inPlace : (Rows.tenantNobodyRow.inPlace == Tryz.prog.inPlace 7) = true := by kernel_rfl
set_option maxRecDepth 100000 in
theorem fx_unfollowed : (Rows.tenantNobodyRow.unfollowed == Tryz.prog.unfollowed 7) = true := by kernel_rfl
set_option maxRecDepth 100000 in
theorem fx_recurses : (Rows.tenantNobodyRow.recurses == Tryz.prog.recurses 7) = true := by kernel_rfl
set_option maxRecDepth 100000 in
theorem fx_varsNamed : (Rows.tenantNobodyRow.named == Tryz.prog.varsNamed 7) = true := by kernel_rfl
set_option maxRecDepth 100000 in
theorem closed : joinedFacts Tryz.prog 7 Tryz.f7 (OpenSpec.ofChange Rows.tenantNobodySpec).bare Rows.tenantNobodyRow = true :=
  andT (andT (andT (andT (andT (andT (andT (andT (andT (andT (andT (andT (andT (andT (andT (andT (andT (andT (andT (andT (andT (andT (andT (andT (andT (andT (andT (andT (andT (andT (andT ((by kernel_rfl)) fx_laid) fx_maps) (by kernel_rfl)) (by kernel_rfl)) (by kernel_rfl)) fx_stops) (by kernel_rfl)) fx_knobs) fx_inPlace) fx_unfollowed) fx_recurses) fx_varsNamed) (by kernel_rfl)) (by kernel_rfl)) (by kernel_rfl)) (by kernel_rfl)) (by kernel_rfl)) (by kernel_rfl)) (by kernel_rfl)) (by kernel_rfl)) (by kernel_rfl)) (by kernel_rfl)) (by kernel_rfl)) fx_heard) fx_enter) (by kernel_rfl)) (by kernel_rfl)) (by kernel_rfl)) (by kernel_rfl)) (by kernel_rfl)) (by kernel_rfl)
theorem said : Rows.TenantNobodySaid :=
  OpenClaim.holds_of_cond 7 Tryz.f7 rfl rfl rfl rfl rfl rfl rfl ⟨rfl, rfl, rfl, rfl, rfl⟩ rfl rfl rfl rfl rfl (by kernel_rfl) Tryz.func7 closed
    (of_decide_eq_true (by kernel_rfl)) (by unfold Func.isWrapper; first | (rw [if_pos (by decide +kernel)]; kernel_rfl) | (rw [if_neg (by decide +kernel)]; exact ⟨rfl, rfl⟩))
    (fun os started H enc _ F => by rw [OpenClaim.pre_eq_preRow]; exact lifted os started H enc F)
theorem plain (f : FuncId) (fn : Func) (hf : Tryz.pinned.checked.prog.funcNamed "inquest/inquestlaw22.TenantNobody" = some f) (hfn : Tryz.pinned.checked.prog.funcs[f]? = some fn) :
    true = Tryz.pinned.checked.prog.looks [] ∧ ∀ (j : Nat) t, fn.params[j]? = some t → Tryz.pinned.checked.prog.wantsStandIn t = false := by
  obtain rfl : f = 7 := Option.some.inj ((show Tryz.prog.funcNamed "inquest/inquestlaw22.TenantNobody" = some 7 by kernel_rfl).symm.trans hf) |>.symm
  obtain rfl : fn = Tryz.f7 := (Option.some.inj (Tryz.func7.symm.trans hfn)).symm
  refine ⟨by kernel_rfl, fun j t ht => ?_⟩
  rw [Tryz.params7] at ht
  have hall : ([36, 3].all fun u => !Tryz.prog.wantsStandIn u) = true := by kernel_rfl
  have hm : t ∈ [36, 3] := by simpa using Array.mem_of_getElem? ht
  exact (show Tryz.prog.wantsStandIn t = false by simpa using List.all_eq_true.1 hall t hm)
/-- the tied card -/
theorem card : Rows.TenantNobodyCardSaid :=
  Claim7.holds_tied_plain_at .later [] _ _ _ _ said (fun _ h => by cases h) (by kernel_rfl) (fun _ h => by cases h) tenantNobody_row_tie rfl ⟨rfl, rfl⟩ (by kernel_rfl) rfl plain (by kernel_rfl)
end Go.Proofs.YtipakjenggeflaaGreatDoor.tenantNobody
namespace Go.Proofs.YtipakjenggeflaaGreatDoor
theorem tenantNobody_holds : Rows.TenantNobodyCardSaid := tenantNobody.card
#print axioms tenantNobody_holds
end Go.Proofs.YtipakjenggeflaaGreatDoor
