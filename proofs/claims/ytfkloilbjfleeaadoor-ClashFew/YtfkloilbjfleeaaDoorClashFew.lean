/- For every list of slices of bytes, every slice of bytes, every list of digests and every number the law ClashFew returns true and the arguments read as they did (P7.2): without bits each other text is shown by each path of the right length (up to 20 texts of up to 60 bytes), and told. The package's table is as the program's text lays it (the card ties it). -/
import Derived.Test.YtfkloilbjfleeaaDoorDoor
import Derived.Test.YtfkloilbjfleeaaDoorFewOwn
import Derived.Test.YtfkloilbjfleeaaDoorSteps
import Derived.Test.YtfkloilbjfleeaaDoorRefGrowC
import Derived.Test.YtfkloilbjfleeaaDoorSma
import Derived.Test.YtfkloilbjfleeaaDoorDgsIn
import Derived.Test.YtfkloilbjfleeaaDoorTxsIn
import Derived.WalkKit
import Derived.ShutString
import Derived.ChangeOld
import Derived.Below
namespace Go.Proofs.YtfkloilbjfleeaaDoor.clashFew
open Go.ChangeShapes Go.WideShapes Go.ChangeAt Go.RowKit
open Go.ChangeMaps (open_string shut_string)
set_option linter.unusedVariables false

theorem laidOut : laidOutB Tryd.prog = true := by kernel_rfl

/-- a digest of one byte -/
def dOne (c : Int) : List Int := c :: List.replicate 31 0
theorem dOne_dg (c : Int) (h : 0 ≤ c ∧ c ≤ 255) : Dg (dOne c) := ⟨by simp [dOne], Byt.cons h (fun d hd => by rw [List.eq_of_mem_replicate hd]; decide)⟩

set_option maxRecDepth 100000 in
set_option maxHeartbeats 1000000 in
theorem walk (a0 : Option Addr) (len0 cap0 : Nat) (T : List (List Int)) (i : Int) (a2 : Option Addr) (len2 cap2 : Nat) (l : List Int) (a3 : Option Addr) (len3 cap3 : Nat) (L : List (List Int)) (w : World) (hT : Txs w a0 len0 cap0 T) (hi : -9223372036854775808 ≤ i ∧ i ≤ 9223372036854775807) (hl : Bts w a2 len2 cap2 l) (hL : Dgs w a3 len3 cap3 L) (htab : Tab w) :
    Calls Tryd.prog 7 #[.slice a0 len0 cap0, .int .i64 i, .slice a2 len2 cap2, .slice a3 len3 cap3] w fun e w' => e = .returned (.bool true) ∧ Below w.heap.size w w' := by
  go_enter Tryd.func7, Tryd.ntmps7
  go_wp2_with fail
  refine (few7_any a0 len0 cap0 20 60 T _ hT (by decide) (by decide) (by decide)).mono ?_
  rintro e w1 ⟨da, dn, dc, rfl, hdn, hd1, hb1⟩
  have hfit := fewT_fit T 20 60
  generalize fewT T 20 60 = TT at hd1 hfit
  have HFIT : Bx (∀ t ∈ TT, t.length ≤ 100000) := ⟨fun t ht => Nat.le_trans (hfit t ht) (by decide)⟩
  have hl1 := hl.below hb1
  have hL1 := hL.below hb1
  have hT1 := htab.below hb1
  clear hT hfit hl hL
  go_wp2_with fail
  refine (cut_any a2 len2 cap2 60 l _ hl1 (by decide)).mono ?_
  rintro e w' ⟨⟨ln, rfl, hf1⟩, rfl⟩
  have hln : ln ≤ 60 := by have := hf1.len_eq; rw [List.length_take] at this; omega
  generalize l.take 60 = lf at hf1
  clear hl1
  by_cases h0 : dn = 0
  · have g0 : ((dn : Int) == 0) = true := by simp; omega
    clear h0 hd1 HFIT hf1 hL1
    go_wp2_with fail
    refine (lives7_any _ hT1).mono ?_
    rintro e w2 ⟨rfl, hb2⟩
    have hlow := bstep hb1 hb2
    clear hb1 hb2 hT1
    go_wp2
    go_ret
    exact ⟨rfl, hlow⟩
  · have g0 : ((dn : Int) == 0) = false := by simp; omega
    have hdl : Bx (TT.length = dn) := ⟨hd1.len_eq⟩
    have hdc := hd1.le_cap
    have hdm := hd1.cap_le
    unfold maxLen at hdm
    go_wp2_with fail
    refine (least_any i 0 ((dn : Int) - 1) _).mono ?_
    rintro e w' ⟨rfl, rfl⟩
    have hlb := least_bd i 0 ((dn : Int) - 1) (by omega)
    obtain ⟨j, hj⟩ : ∃ j : Nat, leastV i 0 ((dn : Int) - 1) = (j : Int) := ⟨(leastV i 0 ((dn : Int) - 1)).toNat, by omega⟩
    rw [hj] at hlb ⊢
    have hjd : j < dn := by omega
    clear hj hlb
    have hk63 := stepsL_bits 63 dn j (by omega)
    have HST : Bx (∀ W, Calls Tryd.prog 28 #[.int .i64 dn, .int .i64 j] W fun e w' => ∃ a c, e = .returned (.slice a (stepsL dn j).length c) ∧ Below W.heap.size W w') := ⟨fun W => by
      refine (steps_any dn j W (by omega) (by omega) hjd).mono ?_
      rintro e w' ⟨v, rfl, ho, hb⟩
      obtain ⟨sa, sc, rfl⟩ := owns_slice ho
      exact ⟨sa, sc, rfl, hb⟩⟩
    obtain ⟨k, hk⟩ : ∃ k, k = (stepsL dn j).length := ⟨_, rfl⟩
    rw [← hk] at HST hk63
    have HK : Bx (k = (stepsL dn j).length) := ⟨hk⟩
    clear hk
    go_wp2_with fail
    refine (HST.out _).mono ?_
    rintro e w2 ⟨s2, t2, rfl, hb2⟩
    have hd2 := hd1.below hb2
    have hf2 := hf1.below hb2
    have hL2 := hL1.below hb2
    have hlow2 := bstep hb1 hb2
    clear hd1 hf1 hL1 hb1 hb2 hT1
    go_wp2_with fail
    refine (few_own a3 len3 cap3 k L _ hL2 (by omega)).mono ?_
    rintro e w3 ⟨v3, rfl, P0, hPd, hPl, ho3, hb3⟩
    have HD2 : Bx _ := ⟨hd2⟩
    have HF2 : Bx _ := ⟨hf2⟩
    clear hd2 hf2 hL2
    go_wp2
    go_loopw [3] (fun v wr => ∃ P : List (List Int), Dgl P ∧ P.length ≤ k ∧ wr.ownsRow w2.heap.size 42 32 v P.length (bv P.flatten) ∧ Below w2.heap.size w2 wr) (fun v _ => k - lenOf v)
    case atStart => exact ⟨P0, hPd, hPl, ho3, hb3⟩
    case round =>
      clear hPd hPl ho3 hb3
      obtain ⟨P, hPd, hPl, ho, hlow⟩ := hrel
      obtain ⟨pa, pc, rfl⟩ := owns_slice ho
      obtain ⟨pl, hpl⟩ : ∃ pl, pl = P.length := ⟨_, rfl⟩
      rw [← hpl] at ho hPl ⊢
      have HPL : Bx (P.length = pl) := ⟨hpl.symm⟩
      clear hpl
      by_cases hlt : pl < k
      · have g1 : (pl : Int) < (k : Int) := by omega
        go_wp2_with fail
        refine (HST.out _).mono ?_
        rintro e w5 ⟨s5, t5, rfl, hb5⟩
        have ho5 := owns_below ho hb5
        have hlow5 := bstep hlow hb5
        have hsz5 := hlow5.size
        have hwr : IntKind.u8.wrap (pl : Int) = (pl : Int) := by rw [IntKind.wrap_u8]; omega
        have hDd := dOne_dg (pl : Int) (by omega)
        have hone := one_new w5 (dOne pl) hDd
        have ho6 := owns_new ho5 rfl (.cells (bv (dOne pl)).toArray 42)
        have hlow6 : Below w2.heap.size w2 (w5.alloc (.cells (bv (dOne pl)).toArray 42)) := hlow5.alloc hsz5 _
        clear ho hlow hb5 ho5 hlow5
        go_wp2_with (first
          | (refine wpList_build_one rfl (.tmp 43) rfl (dOne pl) hDd.1 rfl ?_; generalize w5.alloc (.cells (bv (dOne pl)).toArray 42) = w6 at hone ho6 hlow6 ⊢)
          | (at_builtin; refine wpList_append_dgs rfl (.tmp 39) (.tmp 44) rfl w2.heap.size pl _ P rfl ho6 _ 1 1 [dOne pl] rfl hone (by omega) hlow6.size ?_; intro v' w' ho' hb' _; have hlow7 := hlow6.trans hb'; clear ho6 hb' hlow6 hone))
        have HL2 : Bx ((P ++ [dOne pl]).length = pl + 1) := ⟨by rw [List.length_append, HPL.out]; rfl⟩
        obtain ⟨qa, qc, rfl⟩ := owns_slice ho'
        go_roundw
        case rel => exact ⟨P ++ [dOne pl], hPd.append (Dgl.one hDd), by rw [HL2.out]; omega, by rw [HL2.out]; exact ho', hlow7⟩
        case measure => simp [lenOf]; omega
      · obtain rfl : pl = k := by omega
        have g1 : ¬ (pl : Int) < (pl : Int) := by omega
        have g1' : decide (pl < pl) = false := by simp
        obtain ⟨pa', pc', e', hP⟩ := Dgs.of_owns ho hPd
        cases e'
        go_wp2_with fail
        refine (HST.out _).mono ?_
        rintro e w5 ⟨s5, t5, rfl, hb5⟩
        have hP5 := hP.below hb5
        have hlow5 := bstep hlow hb5
        have hd5 := HD2.out.below hlow5
        have hf5 := HF2.out.below hlow5
        have hlw5 := bstep hlow2 hlow5
        obtain ⟨db, doff, rfl, _, hdc5⟩ := hd5.spot (by omega)
        obtain ⟨ai, li, ci, hcell, hbt5⟩ := hdc5 j hjd
        have HMZ : Bx (mustP TT (j : Int) lf P 0 = !decide (lf = TT.getD j [])) := ⟨must_zero TT j lf P (by rw [hdl.out]; exact hjd) (by rw [HPL.out, HK.out, hdl.out])⟩
        clear hdc5 ho hP hlow hb5 hlow5 HD2 HF2 HST hlow2
        go_wp2_with fail
        refine (cpath_any _ dn dc TT (j : Int) a2 ln cap2 lf pa pl pc P 0 _ hd5 HFIT.out (by omega) hf5 (by omega) hP5 (by omega) (htab.below hlw5)).mono ?_
        rintro e w6 ⟨hans, hb6⟩
        rw [HMZ.out] at hans
        obtain ⟨a, n, c, b, m, d, A, B, rfl, hA, hB, hn, hm, h1, h2⟩ := cans_form hans
        have hf6 := hf5.below hb6
        have hbt6 := hbt5.below hb6
        have hlw6 := bstep hlw5 hb6
        have hcell6 := (hb6.cell (p := ⟨db, doff + j, none⟩) (World.block_lt_of_cell? _ _ hcell)).trans hcell
        have hcc := cc_new hA hB (htab.below hlw6)
        have hb7 : Below w6.heap.size w6 (w6.alloc (.cells #[.slice a n c, .slice b m d] 25)) := (Below.refl _ _).alloc (Nat.le_refl _) _
        have hf7 := hf6.below hb7
        have hbt7 := hbt6.below hb7
        have hcell7 := (hb7.cell (p := ⟨db, doff + j, none⟩) (World.block_lt_of_cell? _ _ hcell6)).trans hcell6
        have HSM : Bx _ := ⟨same_any a2 ai ln li cap2 ci lf (TT.getD j []) _ hf7 hbt7⟩
        have HCC : Bx _ := ⟨hcc⟩
        have hjI : (j : Int) < (dn : Int) := by omega
        cases hr : decide (lf = TT.getD j []) with
        | true =>
          rw [hr] at HSM
          have HLW : Bx _ := ⟨bstep hlw6 hb7⟩
          clear hans hd5 hf5 hP5 hbt5 hcell hb6 hf6 hbt6 hcell6 hcc hf7 hbt7 hA hB h1 h2 hr HMZ hlw5 hlw6 hb7 HCC
          go_wp2_with fail
          have hlow7 := HLW.out
          clear HLW hcell7
          refine HSM.out.mono ?_
          rintro e w8 ⟨rfl, q8, rfl⟩
          have hlow8 := below_drewN hlow7 q8
          clear HSM hlow7
          generalize (w6.alloc (.cells #[.slice a n c, .slice b m d] 25)).drewN q8 = w8 at hlow8 ⊢
          go_wp2_with fail
          refine (lives7_any _ (htab.below hlow8)).mono ?_
          rintro e w9 ⟨rfl, hb9⟩
          have hlow := bstep hlow8 hb9
          clear hlow8 hb9
          go_wp2
          go_ret
          exact ⟨rfl, hlow⟩
        | false =>
          rw [hr] at HSM
          have hcl := h1 (by rw [hr]; rfl)
          have HIS : Bx (∀ W, CC w6.heap.size a b n m c d A B w6 W → Calls Tryd.prog 9 #[.agg #[.slice a n c, .slice b m d], .int .i64 0] W fun e w' => e = .returned (.bool true) ∧ Below W.heap.size W w') := ⟨fun W h => by rw [← hcl]; exact is_any a b n m c d A B 0 W h.fst h.snd h.tab hn hm⟩
          have HRI : Bx (∀ W, CC w6.heap.size a b n m c d A B w6 W → Calls Tryd.prog 10 #[.agg #[.slice a n c, .slice b m d], .int .i64 0] W fun e w' => e = .returned (.bool true) ∧ Below W.heap.size W w') := ⟨fun W h => by rw [← hcl]; exact refis_any a b n m c d A B 0 W h.fst h.snd h.tab hn hm⟩
          clear hans hd5 hf5 hP5 hbt5 hcell hb6 hf6 hbt6 hcell6 hcc hf7 hbt7 hA hB h1 h2 hr HMZ hlw5 hb7 hcl
          go_wp2_with fail
          have hcc := HCC.out
          clear HCC hcell7
          refine HSM.out.mono ?_
          rintro e w8 ⟨rfl, q8, rfl⟩
          have hcc8 := hcc.drewN q8
          clear HSM hcc
          generalize (w6.alloc (.cells #[.slice a n c, .slice b m d] 25)).drewN q8 = w8 at hcc8 ⊢
          have HR8 : Bx _ := ⟨hcc8.row⟩
          go_wp2_with (refine wpList_load_guarded25 (b := w6.heap.size) (D := #[.slice a n c, .slice b m d]) rfl (.tmp 9) rfl rfl HR8.out cls_info ?_)
          refine (HIS.out _ hcc8).mono ?_
          rintro e w9 ⟨rfl, hb9⟩
          have hcc9 := hcc8.step hb9
          have HR9 : Bx _ := ⟨hcc9.row⟩
          clear hcc8 hb9 HIS HR8
          go_wp2_with (refine wpList_load_guarded25 (b := w6.heap.size) (D := #[.slice a n c, .slice b m d]) rfl (.tmp 9) rfl rfl HR9.out cls_info ?_)
          refine (HRI.out _ hcc9).mono ?_
          rintro e w10 ⟨rfl, hb10⟩
          have hcc10 := hcc9.step hb10
          clear hcc9 hb10 HRI HR9
          go_wp2_with fail
          refine (lives7_any _ hcc10.tab).mono ?_
          rintro e w11 ⟨rfl, hb11⟩
          have hlow := bstep hlw6 (hcc10.step hb11).low
          clear hcc10 hb11 hlw6
          go_wp2
          go_ret
          exact ⟨rfl, hlow⟩

set_option maxRecDepth 100000 in
/-- what the walk gives, for every argument and every world that holds the table -/
theorem contract (H : Type) (enc : TypeId × Value → H) (W : World) (base : Nat) (args : Array Value) (ds gs : List (DataW H)) (before : List MemPlace)
    (hval0 : ∀ (j : Nat) t v, Tryd.f7.params[j]? = some t → args[j]? = some v → Value.okWide Tryd.prog W .any base t v)
    (hW : DataW.Whole enc Tryd.prog Tryd.f7.params.toList Rows.clashFewSpec.vars false W args.toList ds gs before) (hL : laidMetH Tryd.prog Rows.clashFewRow.laid W) :
    Calls Tryd.prog 7 args W fun e W' => ∃ v, e = .returned v ∧ Rows.clashFewSpec.post enc Tryd.prog Tryd.f7 false true false false W args v W' := by
  have htab := tab_of_laid hL
  have hval : ∀ (j : Nat) t v, Tryd.f7.params[j]? = some t → args[j]? = some v → Value.okWide Tryd.prog W .any base t v := hval0
  have hW' := hW
  obtain ⟨p, q, hA0, hV, rfl, hfz, hnd⟩ := hW
  have hA : DataW.TrodAll enc Tryd.prog W 0 (fun _ => true) true Tryd.f7.params.toList args.toList ds p := hA0
  rw [Tryd.params7] at hA hval
  obtain ⟨v0, vs0, d0, ds0, p0, q0, hargs, rfl, rfl, h0, r0⟩ := trodAll_cons hA
  obtain ⟨v1, vs1, d1, ds1, p1, q1, rfl, rfl, rfl, h1, r1⟩ := trodAll_cons r0
  obtain ⟨v2, vs2, d2, ds2, p2, q2, rfl, rfl, rfl, h2, r2⟩ := trodAll_cons r1
  obtain ⟨v3, vs3, d3, ds3, p3, q3, rfl, rfl, rfl, h3, r3⟩ := trodAll_cons r2
  obtain ⟨rfl, rfl, rfl⟩ := trodAll_nil r3
  obtain rfl : args = #[v0, v1, v2, v3] := by cases args; simp_all
  obtain ⟨rfl, rfl⟩ := trodVars_none hV
  obtain ⟨a0, len0, cap0, rfl⟩ := okWide_slice Tryd.underlying29 (hval 0 29 v0 rfl rfl)
  obtain ⟨a2, len2, cap2, rfl⟩ := okWide_slice Tryd.underlying22 (hval 2 22 v2 rfl rfl)
  obtain ⟨a3, len3, cap3, rfl⟩ := okWide_slice Tryd.underlying30 (hval 3 30 v3 rfl rfl)
  have k0 := h0
  have lt0 : ∀ x ∈ p0, x.block < W.heap.size := by obtain ⟨m, hm⟩ := k0; exact DataW.trod_lt m _ _ _ hm
  have k1 := h1
  have lt1 : ∀ x ∈ p1, x.block < W.heap.size := by obtain ⟨m, hm⟩ := k1; exact DataW.trod_lt m _ _ _ hm
  have k2 := h2
  have lt2 : ∀ x ∈ p2, x.block < W.heap.size := by obtain ⟨m, hm⟩ := k2; exact DataW.trod_lt m _ _ _ hm
  have k3 := h3
  have lt3 : ∀ x ∈ p3, x.block < W.heap.size := by obtain ⟨m, hm⟩ := k3; exact DataW.trod_lt m _ _ _ hm
  obtain ⟨T, hT⟩ := open_txs h0
  obtain ⟨i, rfl, hi⟩ := open_i64 (hval 1 3 v1 rfl rfl) h1
  obtain ⟨l, hl⟩ := open_bytes h2
  obtain ⟨L, hL⟩ := open_dgs h3
  clear hA0 hval0
  refine (walk a0 len0 cap0 T i a2 len2 cap2 l a3 len3 cap3 L W hT hi hl hL htab).mono fun e W' ⟨he, bel⟩ => ?_
  subst he
  exact ⟨_, rfl, _, _, _, [], _, [], hW', trodAll_mk1 (shut_bool Tryd.underlying4 _), (trodAll_cons_mk (Below.trod laidOut (by kernel_rfl) (of_decide_eq_true (by kernel_rfl)) k0 bel lt0) (trodAll_cons_mk (Below.trod laidOut (by kernel_rfl) (of_decide_eq_true (by kernel_rfl)) k1 bel lt1) (trodAll_cons_mk (Below.trod laidOut (by kernel_rfl) (of_decide_eq_true (by kernel_rfl)) k2 bel lt2) (trodAll_cons_mk (Below.trod laidOut (by kernel_rfl) (of_decide_eq_true (by kernel_rfl)) k3 bel lt3) trodAll_mk0)))), rfl, bel.frame _, fun h => by cases h⟩

set_option maxRecDepth 100000 in
theorem laid_met (os : Os) : laidMet Tryd.prog Rows.clashFewRow.laid (({ World.holding Tryd.prog os ⟨#[], #[], []⟩ with heap := (World.holding Tryd.prog os ⟨#[], #[], []⟩).heap.setIfInBounds 0 (.cells (uv keyL).toArray 106) } : World).forCall (fun _ _ => 0) ⟨#[], #[.slice none 0 0, .int .i64 0, .slice none 0 0, .slice none 0 0], []⟩).memory :=
  laidMet_of_run' 8 (by kernel_rfl) (by kernel_rfl)
set_option maxRecDepth 100000 in
theorem reads (os : Os) {H : Type} (enc : TypeId × Value → H) : ∃ places, DataW.whole enc Tryd.prog (({ World.holding Tryd.prog os ⟨#[], #[], []⟩ with heap := (World.holding Tryd.prog os ⟨#[], #[], []⟩).heap.setIfInBounds 0 (.cells (uv keyL).toArray 106) } : World).forCall (fun _ _ => 0) ⟨#[], #[.slice none 0 0, .int .i64 0, .slice none 0 0, .slice none 0 0], []⟩).memory Tryd.f7.params.toList Rows.clashFewSpec.vars false (#[.slice none 0 0, .int .i64 0, .slice none 0 0, .slice none 0 0] : Array Value).toList 8 = some ([.nil, .lit (.int .i64 0), .nil, .nil], [], places) :=
  ⟨[], by kernel_rfl⟩
set_option maxRecDepth 100000 in
theorem lifted (os : Os) (started : os.Started) (H : Type) (enc : TypeId × Value → H) (F : Stop.Interp) :
    ReturnsInHanded {} Tryd.checked os 7 .any ((OpenSpec.ofChange Rows.clashFewSpec).preRow enc Tryd.prog Tryd.f7 Rows.clashFewRow.domain false Rows.clashFewRow.laid) (((OpenSpec.ofChange Rows.clashFewSpec).at F).post enc Tryd.prog Tryd.f7 false true false false) := by
  obtain ⟨places, hx⟩ := reads os enc
  refine returnsInHanded_of_row (C := Tryd.checked) (s := OpenSpec.ofChange Rows.clashFewSpec) own started (by kernel_rfl) Tryd.func7
    (witness_row_at (enc := enc) (C := Tryd.checked) false ({ World.holding Tryd.prog os ⟨#[], #[], []⟩ with heap := (World.holding Tryd.prog os ⟨#[], #[], []⟩).heap.setIfInBounds 0 (.cells (uv keyL).toArray 106) } : World) #[.slice none 0 0, .int .i64 0, .slice none 0 0, .slice none 0 0] rfl (by kernel_rfl) (by kernel_rfl) (by kernel_rfl)
      (OpenSpec.preRow_of_cond 8 hx (by kernel_rfl) (fun k hk => by cases hk) (by kernel_rfl) (laid_met os))) ?_
  intro W base args ds gs before hval hW _ _ _ hL _ _
  exact contract H enc W base args ds gs before hval hW hL
theorem said : Rows.ClashFewSaid :=
  OpenClaim.holds_of_cond 7 Tryd.f7 rfl rfl rfl rfl rfl rfl rfl ⟨rfl, rfl, rfl, rfl, rfl⟩ rfl rfl rfl rfl rfl (by kernel_rfl) Tryd.func7 (by kernel_rfl)
    (of_decide_eq_true (by kernel_rfl)) (by unfold Func.isWrapper; first | (rw [if_pos (by decide +kernel)]; kernel_rfl) | (rw [if_neg (by decide +kernel)]; exact ⟨rfl, rfl⟩))
    (fun os started H enc _ F => by rw [OpenClaim.pre_eq_preRow]; exact lifted os started H enc F)
theorem plain (f : FuncId) (fn : Func) (hf : Tryd.pinned.checked.prog.funcNamed "inquest/inquestlaw07.ClashFew" = some f) (hfn : Tryd.pinned.checked.prog.funcs[f]? = some fn) :
    false = Tryd.pinned.checked.prog.looks [] ∧ ∀ (j : Nat) t, fn.params[j]? = some t → Tryd.pinned.checked.prog.wantsStandIn t = false := by
  obtain rfl : f = 7 := Option.some.inj ((show Tryd.prog.funcNamed "inquest/inquestlaw07.ClashFew" = some 7 by kernel_rfl).symm.trans hf) |>.symm
  obtain rfl : fn = Tryd.f7 := (Option.some.inj (Tryd.func7.symm.trans hfn)).symm
  refine ⟨by kernel_rfl, fun j t ht => ?_⟩
  rw [Tryd.params7] at ht
  have hall : ([29, 3, 22, 30].all fun u => !Tryd.prog.wantsStandIn u) = true := by kernel_rfl
  have hm : t ∈ [29, 3, 22, 30] := by simpa using Array.mem_of_getElem? ht
  exact (show Tryd.prog.wantsStandIn t = false by simpa using List.all_eq_true.1 hall t hm)
/-- the tied card -/
theorem card : Rows.ClashFewCardSaid :=
  Claim7.holds_tied_plain_at .later [] _ _ _ _ said (fun _ h => by cases h) (by kernel_rfl) (fun _ h => by cases h) clashFew_row_tie rfl ⟨rfl, rfl⟩ (by kernel_rfl) rfl plain (by kernel_rfl)
end Go.Proofs.YtfkloilbjfleeaaDoor.clashFew
namespace Go.Proofs.YtfkloilbjfleeaaDoor
theorem clashFew_holds : Rows.ClashFewCardSaid := clashFew.card
#print axioms clashFew_holds
end Go.Proofs.YtfkloilbjfleeaaDoor
