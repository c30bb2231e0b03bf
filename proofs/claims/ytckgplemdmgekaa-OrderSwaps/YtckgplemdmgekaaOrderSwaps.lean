/- OrderSwaps: two that stand next to one another, neither before the other, may change places as far as time goes. -/
import Derived.Test.YtckgplemdmgekaaRows
import Derived.Test.YtckgplemdmgekaaOrIn
import Derived.Test.YtckgplemdmgekaaOLaw
import Derived.WalkKit
import Derived.ProofKit
import Derived.OpenShut
import Derived.ShutString
import Derived.ChangeOld
import Derived.Below
namespace Go.Proofs.Ytckgplemdmgekaa.orderSwaps
open Go.ChangeShapes Go.WideShapes Go.ChangeAt Go.RowKit
open Go.ChangeMaps (open_string shut_string)
set_option linter.unusedVariables false

theorem own : ownKnob Try.prog.godebug = none := by kernel_rfl
theorem laidOut : laidOutB Try.prog = true := by kernel_rfl


set_option maxRecDepth 100000 in
set_option maxHeartbeats 8000000 in
theorem walk (a0 : Option Addr) (len0 cap0 : Nat) (l : List Ic) (fuel : Int) (a2 : Option Addr) (len2 cap2 : Nat) (ops : List Opr) (a3 : Option Addr) (len3 cap3 : Nat) (o : List Int) (xat : Int) (w : World) (hl : IcsI w a0 len0 cap0 l) (hfuel : I64 fuel) (hops : OrsI w a2 len2 cap2 ops) (ho : IvsI w a3 len3 cap3 o) (hxat : I64 xat) :
    Calls Try.prog 6 #[.slice a0 len0 cap0, .int .i64 fuel, .slice a2 len2 cap2, .slice a3 len3 cap3, .int .i64 xat] w fun e w' => e = .returned (.bool true) ∧ Below w.heap.size w w' := by
  have HL := Bx.mk hl.1
  have HLK := Bx.mk hl.2
  have HOP := Bx.mk hops.1
  have HOPK := Bx.mk hops.2
  have HIO := Bx.mk ho.1
  clear hl hops ho
  go_enter Try.func6, Try.ntmps6
  go_wp2_with fail
  refine (few15_any a0 len0 cap0 l _ HL.out).mono ?_
  rintro e w1 ⟨v1, rfl, ho1, hb1⟩
  obtain ⟨L, HLL⟩ : ∃ L, Bx (l.take 210 = L) := ⟨_, ⟨rfl⟩⟩
  have HLK1 : Bx (IcsK L) := ⟨by rw [← HLL.out]; exact HLK.out.take 210⟩
  have HLN : Bx (L.length ≤ 210) := ⟨by rw [← HLL.out, List.length_take]; omega⟩
  rw [HLL.out] at ho1
  obtain ⟨aL, cL, rfl, hE1⟩ := Ls.of_owns icC_len ho1 rfl
  have HE1 := Bx.mk hE1
  have HB1 := Bx.mk hb1
  have HOP1 := Bx.mk (HOP.out.below hb1)
  have HIO1 := Bx.mk (HIO.out.below hb1)
  clear ho1 hE1 hb1 HL HLK HLL HOP HIO
  go_wp2_with fail
  refine (few17_any a2 len2 cap2 64 ops _ HOP1.out (by decide) (by decide)).mono ?_
  rintro e w2 ⟨v2, rfl, ho2, hb2⟩
  obtain ⟨O, HOO⟩ : ∃ O, Bx (ops.take 64 = O) := ⟨_, ⟨rfl⟩⟩
  have HOK1 : Bx (OrsK O) := ⟨by rw [← HOO.out]; exact HOPK.out.take 64⟩
  have HON : Bx (O.length ≤ 64) := ⟨by rw [← HOO.out, List.length_take]; omega⟩
  rw [HOO.out] at ho2
  obtain ⟨aO, cO, rfl, hE2⟩ := Ls.of_owns orC_len ho2 rfl
  have HO2 := Bx.mk hE2
  have HE2 := Bx.mk (HE1.out.below hb2)
  have HB2 := Bx.mk (bstep HB1.out hb2)
  have HIO2 := Bx.mk (HIO1.out.below hb2)
  clear ho2 hE2 hb2 HE1 HB1 HOP1 HIO1 HOPK HOO
  go_wp2_with fail
  refine (ints17_any a3 len3 cap3 64 o _ HIO2.out (by decide) (by decide)).mono ?_
  rintro e w3 ⟨v3, rfl, ho3, hb3⟩
  obtain ⟨J, HJJ⟩ : ∃ J, Bx (o.take 64 = J) := ⟨_, ⟨rfl⟩⟩
  have HJN : Bx (J.length ≤ 64) := ⟨by rw [← HJJ.out, List.length_take]; omega⟩
  rw [HJJ.out] at ho3
  have HOW3 := Bx.mk ho3
  obtain ⟨aJ, cJ, rfl, hE3⟩ := Ls.of_owns ivC_len ho3 rfl
  have HI3 := Bx.mk hE3
  have HE3 := Bx.mk (HE2.out.below hb3)
  have HO3 := Bx.mk (HO2.out.below hb3)
  have HB3 := Bx.mk (bstep HB2.out hb3)
  have HLB := Bx.mk HE2.out.blk; have HOB := Bx.mk HO2.out.blk; have HWS := Bx.mk HB2.out.size; have HS23 := Bx.mk hb3.size
  clear ho3 hE3 hb3 HE2 HO2 HB2 HIO2 HJJ
  go_wp2_with fail
  refine (least_any fuel 0 300 _).mono ?_
  rintro e wq ⟨rfl, hw⟩
  subst hw
  have hfb := least_bd fuel 0 300 (by decide)
  generalize leastV fuel 0 300 = f at hfb ⊢
  have HVF : Bx (V64 f) := ⟨by unfold V64; omega⟩
  clear hfb
  go_wp2_with fail
  refine (check17_any _ _ _ _ _ _ _ _ _ L f O J _ HE3.out HLK1.out HVF.out HO3.out HOK1.out HI3.out).mono ?_
  rintro e w4 ⟨rfl, hb4⟩
  have HE4 := Bx.mk (HE3.out.below hb4)
  have HO4 := Bx.mk (HO3.out.below hb4)
  have HJ4 := Bx.mk (owns_below HOW3.out hb4)
  have HB := Bx.mk (bstep HB3.out hb4)
  have HS24 : Bx (w2.heap.size ≤ w4.heap.size) := ⟨Nat.le_trans HS23.out hb4.size⟩
  clear hb4 HE3 HO3 HI3 HB3 HOW3
  by_cases hr : ordE L f O J = 0
  · have HORD := Bx.mk (ordE_ok.1 hr)
    rw [hr]
    clear hr
    by_cases hm2 : J.length < 2
    · have hmI : ((J.length : Nat) : Int) < 2 := by omega
      go_wp2_with fail
      refine (lives17_any _).mono ?_
      rintro e wL ⟨rfl, hbL⟩
      have hfin := bstep HB.out hbL
      go_wp2_with fail
      go_ret
      exact ⟨rfl, hfin⟩
    · obtain ⟨n, HN⟩ : ∃ n, Bx (O.length = n) := ⟨_, ⟨rfl⟩⟩
      obtain ⟨m, HM⟩ : ∃ m, Bx (J.length = m) := ⟨_, ⟨rfl⟩⟩
      obtain ⟨nL, HNL⟩ : ∃ nL, Bx (L.length = nL) := ⟨_, ⟨rfl⟩⟩
      rw [HNL.out] at HE4 HLB ⊢
      rw [HN.out] at HO4 HON HOB ⊢
      rw [HM.out] at HJ4 HJN hm2 ⊢
      have hn := HON.out
      have hm := HJN.out
      have HPL : Bx (PlN O.length J) := ⟨pln_of HORD.out.pl⟩
      have HPOS : Bx (0 < nL ∧ 0 < n) := ⟨by rw [← HNL.out]; exact (thr_flow HORD.out.code).1, by
        obtain ⟨p, _, h⟩ := HPL.out.nat (i := 0) (by rw [HM.out]; omega)
        rw [HN.out] at h; omega⟩
      obtain ⟨b0, o0, rfl, _, _⟩ := HE4.out.spot HPOS.out.1
      obtain ⟨b2, o2, rfl, _, _⟩ := HO4.out.spot HPOS.out.2
      have HLB2 : Bx (b0 < w2.heap.size) := ⟨HLB.out _ rfl HPOS.out.1⟩
      have HOB2 : Bx (b2 < w2.heap.size) := ⟨HOB.out _ rfl HPOS.out.2⟩
      obtain ⟨gJ, cc, e, hge, hgl⟩ := owns_form HJ4.out (by omega)
      cases e
      obtain ⟨N, HNE⟩ : ∃ N, Bx (N = w2.heap.size) := ⟨_, ⟨rfl⟩⟩
      rw [← HNE.out] at hge HJ4 HLB2 HOB2 HS24 HWS
      have HGJ := Bx.mk (And.intro hge hgl)
      have HWJ : Bx (w.heap.size ≤ gJ) := ⟨Nat.le_trans HWS.out hge⟩
      have hmI : ¬ ((m : Nat) : Int) < 2 := by omega
      have hmw : IntKind.i64.wrap ((m : Int) - 2) = (m : Int) - 2 := by rw [w64_wrap]; exact w64_id (by unfold V64; omega)
      clear hge hgl HLB HOB
      go_wp2_with fail
      refine (least_any xat 0 ((m : Int) - 2) _).mono ?_
      rintro e wq ⟨rfl, hw⟩
      subst hw
      have hqb := least_bd xat 0 ((m : Int) - 2) (by omega)
      generalize leastV xat 0 ((m : Int) - 2) = qi at hqb ⊢
      obtain ⟨q, rfl⟩ : ∃ q : Nat, qi = q := ⟨qi.toNat, by omega⟩
      have hqm : q < m := by omega
      obtain ⟨q1, HQ1⟩ : ∃ q1, Bx (q1 = q + 1) := ⟨_, ⟨rfl⟩⟩
      have hqm1 : q1 < m := by rw [HQ1.out]; omega
      have hqw : IntKind.i64.wrap ((q : Int) + 1) = (q1 : Int) := by rw [HQ1.out, w64_wrap]; exact w64_id (by unfold V64; omega)
      have hqI : (q : Int) < (m : Int) := by omega
      have hqI1 : (q1 : Int) < (m : Int) := by omega
      have HQL : Bx (q1 < J.length) := ⟨by rw [HM.out]; exact hqm1⟩
      obtain ⟨p, hpe, hpl⟩ := HPL.out.nat (i := q) (by have := HQL.out; have := HQ1.out; omega)
      obtain ⟨r, hre, hrl⟩ := HPL.out.nat HQL.out
      have HXP := Bx.mk hpe
      have HYP := Bx.mk hre
      have hpn : p < n := by rw [← HN.out]; exact hpl
      have hrn : r < n := by rw [← HN.out]; exact hrl
      have hpI : (p : Int) < (n : Int) := by omega
      have hrI : (r : Int) < (n : Int) := by omega
      obtain ⟨X, HXE⟩ : ∃ X, Bx (O.getD p op0 = X) := ⟨_, ⟨rfl⟩⟩
      obtain ⟨Y, HYE⟩ : ∃ Y, Bx (O.getD r op0 = Y) := ⟨_, ⟨rfl⟩⟩
      have HSW := Bx.mk (ord_swap (p := q) HORD.out (by rw [← HQ1.out]; exact HQL.out))
      rw [← HQ1.out, HXP.out, HYP.out, opAt_nat, opAt_nat, HXE.out, HYE.out] at HSW
      obtain ⟨N3, HN3⟩ : ∃ N3, Bx (N3 = w4.heap.size) := ⟨_, ⟨rfl⟩⟩
      have HWN : Bx (w.heap.size ≤ N3) := ⟨by rw [HN3.out]; exact HB.out.size⟩
      have HLTN : Bx (b0 < N3 ∧ b2 < N3 ∧ gJ < N3 ∧ b0 ≠ gJ ∧ b2 ≠ gJ) := ⟨by have h1 := HGJ.out; have h2 := HLB2.out; have h3 := HOB2.out; have h4 := HN3.out; have h5 := HS24.out; omega⟩
      obtain ⟨Qs, HQ0⟩ : ∃ Qs : World → Prop, Bx (Qs = fun W => Ics W (some ⟨b0, o0, none⟩) nL cL L ∧ Ors W (some ⟨b2, o2, none⟩) n cO O ∧ W.ownsRow N 3 1 (.slice (some ⟨gJ, 0, none⟩) m cJ) m (J.flatMap ivC) ∧ N3 ≤ W.heap.size) := ⟨_, ⟨rfl⟩⟩
      have HQS : Bx (∀ W, Qs W → Ics W (some ⟨b0, o0, none⟩) nL cL L ∧ Ors W (some ⟨b2, o2, none⟩) n cO O ∧ W.ownsRow N 3 1 (.slice (some ⟨gJ, 0, none⟩) m cJ) m (J.flatMap ivC) ∧ N3 ≤ W.heap.size) := ⟨fun W h => by rw [HQ0.out] at h; exact h⟩
      have HQP : Bx (∀ W z vs, Qs W → N3 ≤ z → Qs (W.setCells z 0 vs)) := ⟨fun W z vs h hz => by
        rw [HQ0.out] at h ⊢
        have hh := HLTN.out
        exact ⟨h.1.keep (fun p e _ => by cases e; exact setCells_other (show b0 ≠ z by omega) _ 0) (by rw [setCells_size]; exact Nat.le_refl _), h.2.1.keep (fun p e _ => by cases e; exact setCells_other (show b2 ≠ z by omega) _ 0) (by rw [setCells_size]; exact Nat.le_refl _), owns_setCells h.2.2.1 (fun k e => by cases e; show gJ ≠ z; omega), by rw [setCells_size]; exact h.2.2.2⟩⟩
      have HHK : Bx (HX Qs w w4.drew) := ⟨⟨HB.out.drew, by
        rw [HQ0.out]
        exact fun W W' h hb => ⟨h.1.below hb, h.2.1.below hb, owns_below h.2.2.1 hb, Nat.le_trans h.2.2.2 hb.size⟩, by
        rw [HQ0.out]
        have hd : Below w4.heap.size w4 w4.drew := (Below.refl _ _).drew
        exact ⟨HE4.out.below hd, HO4.out.below hd, owns_below HJ4.out hd, by rw [HN3.out]; exact hd.size⟩⟩⟩
      clear HQ0 hpe hpl hre hrl hqb hm2 hmI hmw HE4 HO4 HJ4 HB
      go_upto_region 6 with fail
      go_cut [11, 12] from 39 to 53 (fun s11 s12 wx => ∃ gx gy, s11 = .pointer (some ⟨gx, 0, none⟩) ∧ s12 = .pointer (some ⟨gy, 0, none⟩) ∧ Bx (gx ≠ gy ∧ N3 ≤ gx ∧ N3 ≤ gy ∧ wx.heap[gx]? = some (.cells #[.int .i64 X.c, .int .i64 X.o, .int .i64 X.a, .bool X.d, .int .i64 X.r, .int .i64 X.f, .int .i64 X.t] 38 (0, 0)) ∧ wx.heap[gy]? = some (.cells #[.int .i64 Y.c, .int .i64 Y.o, .int .i64 Y.a, .bool Y.d, .int .i64 Y.r, .int .i64 Y.f, .int .i64 Y.t] 38 (0, 0)) ∧ HX Qs w wx))
      case first =>
        have hk := HHK.out
        clear HHK HSW
        refine wp_region_held_drew (S := fun W => HX Qs w W) (by kernel_rfl) hk (fun _ => ?_)
        generalize w4.drew = wk at hk ⊢
        refine wpAnyH_take (i := 0) (oi := { dst := some 39, op := Op.move (Operand.tmp 2), type := 23, pos := "law.go:78", after := #[], guard := none }) (v := ?vosw61) rfl (by kernel_rfl) (by kernel_rfl) (by kernel_rfl) (fun _ _ _ h => h) (Or.inl ⟨by rfl, ?yosw61⟩) hk ?rosw61
        case yosw61 => (intro w hSw; (try dsimp only at hSw); go_simp; first | done | with_reducible rfl)
        simp only [Act.put, List.setIfInBounds_toArray, List.set_cons_zero, List.set_cons_succ]
        refine wpAnyH_take (i := 1) (oi := { dst := some 40, op := Op.move (Operand.tmp 3), type := 24, pos := "law.go:78", after := #[], guard := none }) (v := ?vosw62) rfl (by kernel_rfl) (by kernel_rfl) (by kernel_rfl) (fun _ _ _ h => h) (Or.inl ⟨by rfl, ?yosw62⟩) hk ?rosw62
        case yosw62 => (intro w hSw; (try dsimp only at hSw); go_simp; first | done | with_reducible rfl)
        simp only [Act.put, List.setIfInBounds_toArray, List.set_cons_zero, List.set_cons_succ]
        refine wpAnyH_take (i := 2) (oi := { dst := some 41, op := Op.move (Operand.tmp 4), type := 3, pos := "law.go:78", after := #[], guard := none }) (v := ?vosw63) rfl (by kernel_rfl) (by kernel_rfl) (by kernel_rfl) (fun _ _ _ h => h) (Or.inl ⟨by rfl, ?yosw63⟩) hk ?rosw63
        case yosw63 => (intro w hSw; (try dsimp only at hSw); go_simp; first | done | with_reducible rfl)
        simp only [Act.put, List.setIfInBounds_toArray, List.set_cons_zero, List.set_cons_succ]
        refine wpAnyH_take (i := 3) (oi := { dst := some 42, op := Op.indexAddr 24 (Operand.tmp 40) (Operand.tmp 41), type := 0, pos := "law.go:78", after := #[{ on := 1, ground := Ground.data }, { on := 2, ground := Ground.data }], guard := none }) (v := ?vosw64) rfl (by kernel_rfl) (by kernel_rfl) (by kernel_rfl) (fun _ _ _ h => h) (Or.inl ⟨by rfl, ?yosw64⟩) hk ?rosw64
        case yosw64 => (intro w hSw; (try dsimp only at hSw); go_simp; first | done | with_reducible rfl)
        simp only [Act.put, List.setIfInBounds_toArray, List.set_cons_zero, List.set_cons_succ]
        refine wpAnyH_take (i := 4) (oi := { dst := some 43, op := Op.load 3 (Operand.tmp 42), type := 3, pos := "law.go:78", after := #[{ on := 3, ground := Ground.data }], guard := none }) (v := ?vosw65) rfl (by kernel_rfl) (by kernel_rfl) (by kernel_rfl) (fun _ _ _ h => h) (Or.inl ⟨by rfl, ?yosw65⟩) hk ?rosw65
        case yosw65 => (intro w hSw; have hcw := own_iv (HQS.out _ hSw.q).2.2.1 HM.out q hqm HXP.out; clear hSw; go_simp; first | done | with_reducible rfl)
        simp only [Act.put, List.setIfInBounds_toArray, List.set_cons_zero, List.set_cons_succ]
        refine wpAnyH_take (i := 5) (oi := { dst := some 44, op := Op.indexAddr 23 (Operand.tmp 39) (Operand.tmp 43), type := 0, pos := "law.go:78", after := #[{ on := 0, ground := Ground.data }, { on := 4, ground := Ground.data }], guard := none }) (v := ?vosw66) rfl (by kernel_rfl) (by kernel_rfl) (by kernel_rfl) (fun _ _ _ h => h) (Or.inl ⟨by rfl, ?yosw66⟩) hk ?rosw66
        case yosw66 => (intro w hSw; (try dsimp only at hSw); go_simp; first | done | with_reducible rfl)
        simp only [Act.put, List.setIfInBounds_toArray, List.set_cons_zero, List.set_cons_succ]
        refine wpAnyH_take (i := 6) (oi := { dst := some 45, op := Op.load 38 (Operand.tmp 44), type := 38, pos := "law.go:78", after := #[{ on := 5, ground := Ground.data }], guard := none }) (v := .agg #[.int .i64 X.c, .int .i64 X.o, .int .i64 X.a, .bool X.d, .int .i64 X.r, .int .i64 X.f, .int .i64 X.t]) rfl (by kernel_rfl) (by kernel_rfl) (by kernel_rfl) (fun _ _ _ h => h) (Or.inl ⟨by rfl, ?yosw67⟩) hk ?rosw67
        case yosw67 => (intro w hSw; obtain ⟨q0, q1, q2, q3, q4, q5, q6⟩ := or_cells (HQS.out _ hSw.q).2.1 p hpn HXE.out; clear hSw; go_simp; first | done | with_reducible rfl)
        simp only [Act.put, List.setIfInBounds_toArray, List.set_cons_zero, List.set_cons_succ]
        refine wpAnyH_take (i := 7) (oi := { dst := some 46, op := Op.move (Operand.tmp 2), type := 23, pos := "law.go:78", after := #[{ on := 17, ground := Ground.gcOnly Departure.lateStores }], guard := none }) (v := ?vosw68) rfl (by kernel_rfl) (by kernel_rfl) (by kernel_rfl) (fun _ _ _ h => h) (Or.inl ⟨by rfl, ?yosw68⟩) hk ?rosw68
        case yosw68 => (intro w hSw; (try dsimp only at hSw); go_simp; first | done | with_reducible rfl)
        simp only [Act.put, List.setIfInBounds_toArray, List.set_cons_zero, List.set_cons_succ]
        refine wpAnyH_take (i := 8) (oi := { dst := some 47, op := Op.move (Operand.tmp 3), type := 24, pos := "law.go:78", after := #[{ on := 17, ground := Ground.gcOnly Departure.lateStores }], guard := none }) (v := ?vosw69) rfl (by kernel_rfl) (by kernel_rfl) (by kernel_rfl) (fun _ _ _ h => h) (Or.inl ⟨by rfl, ?yosw69⟩) hk ?rosw69
        case yosw69 => (intro w hSw; (try dsimp only at hSw); go_simp; first | done | with_reducible rfl)
        simp only [Act.put, List.setIfInBounds_toArray, List.set_cons_zero, List.set_cons_succ]
        refine wpAnyH_take (i := 9) (oi := { dst := some 48, op := Op.move (Operand.tmp 4), type := 3, pos := "law.go:78", after := #[{ on := 17, ground := Ground.gcOnly Departure.lateStores }], guard := none }) (v := ?vosw610) rfl (by kernel_rfl) (by kernel_rfl) (by kernel_rfl) (fun _ _ _ h => h) (Or.inl ⟨by rfl, ?yosw610⟩) hk ?rosw610
        case yosw610 => (intro w hSw; (try dsimp only at hSw); go_simp; first | done | with_reducible rfl)
        simp only [Act.put, List.setIfInBounds_toArray, List.set_cons_zero, List.set_cons_succ]
        refine wpAnyH_take (i := 10) (oi := { dst := some 49, op := Op.binOp BinOp.add 3 (Operand.tmp 48) (Operand.const (Value.int IntKind.i64 1)) 3, type := 3, pos := "law.go:78", after := #[{ on := 9, ground := Ground.data }, { on := 17, ground := Ground.gcOnly Departure.lateStores }], guard := none }) (v := ?vosw611) rfl (by kernel_rfl) (by kernel_rfl) (by kernel_rfl) (fun _ _ _ h => h) (Or.inl ⟨by rfl, ?yosw611⟩) hk ?rosw611
        case yosw611 => (intro w hSw; (try dsimp only at hSw); go_simp; first | done | with_reducible rfl)
        simp only [Act.put, List.setIfInBounds_toArray, List.set_cons_zero, List.set_cons_succ]
        refine wpAnyH_take (i := 11) (oi := { dst := some 50, op := Op.indexAddr 24 (Operand.tmp 47) (Operand.tmp 49), type := 0, pos := "law.go:78", after := #[{ on := 8, ground := Ground.data }, { on := 10, ground := Ground.data }, { on := 17, ground := Ground.gcOnly Departure.lateStores }], guard := none }) (v := ?vosw612) rfl (by kernel_rfl) (by kernel_rfl) (by kernel_rfl) (fun _ _ _ h => h) (Or.inl ⟨by rfl, ?yosw612⟩) hk ?rosw612
        case yosw612 => (intro w hSw; (try dsimp only at hSw); go_simp; first | done | with_reducible rfl)
        simp only [Act.put, List.setIfInBounds_toArray, List.set_cons_zero, List.set_cons_succ]
        refine wpAnyH_take (i := 12) (oi := { dst := some 51, op := Op.load 3 (Operand.tmp 50), type := 3, pos := "law.go:78", after := #[{ on := 11, ground := Ground.data }, { on := 17, ground := Ground.gcOnly Departure.lateStores }], guard := none }) (v := ?vosw613) rfl (by kernel_rfl) (by kernel_rfl) (by kernel_rfl) (fun _ _ _ h => h) (Or.inl ⟨by rfl, ?yosw613⟩) hk ?rosw613
        case yosw613 => (intro w hSw; have hcw := own_iv (HQS.out _ hSw.q).2.2.1 HM.out q1 hqm1 HYP.out; clear hSw; go_simp; first | done | with_reducible rfl)
        simp only [Act.put, List.setIfInBounds_toArray, List.set_cons_zero, List.set_cons_succ]
        refine wpAnyH_take (i := 13) (oi := { dst := some 52, op := Op.indexAddr 23 (Operand.tmp 46) (Operand.tmp 51), type := 0, pos := "law.go:78", after := #[{ on := 7, ground := Ground.data }, { on := 12, ground := Ground.data }, { on := 17, ground := Ground.gcOnly Departure.lateStores }], guard := none }) (v := ?vosw614) rfl (by kernel_rfl) (by kernel_rfl) (by kernel_rfl) (fun _ _ _ h => h) (Or.inl ⟨by rfl, ?yosw614⟩) hk ?rosw614
        case yosw614 => (intro w hSw; (try dsimp only at hSw); go_simp; first | done | with_reducible rfl)
        simp only [Act.put, List.setIfInBounds_toArray, List.set_cons_zero, List.set_cons_succ]
        refine wpAnyH_take (i := 14) (oi := { dst := some 53, op := Op.load 38 (Operand.tmp 52), type := 38, pos := "law.go:78", after := #[{ on := 13, ground := Ground.data }, { on := 17, ground := Ground.gcOnly Departure.lateStores }], guard := none }) (v := .agg #[.int .i64 Y.c, .int .i64 Y.o, .int .i64 Y.a, .bool Y.d, .int .i64 Y.r, .int .i64 Y.f, .int .i64 Y.t]) rfl (by kernel_rfl) (by kernel_rfl) (by kernel_rfl) (fun _ _ _ h => h) (Or.inl ⟨by rfl, ?yosw615⟩) hk ?rosw615
        case yosw615 => (intro w hSw; obtain ⟨q0, q1, q2, q3, q4, q5, q6⟩ := or_cells (HQS.out _ hSw.q).2.1 r hrn HYE.out; clear hSw; go_simp; first | done | with_reducible rfl)
        simp only [Act.put, List.setIfInBounds_toArray, List.set_cons_zero, List.set_cons_succ]
        refine wpAnyH_ready (rs := [15, 16]) (by decide +kernel) (by simp) ?_
        refine (AllReadyH.cons (o := { dst := some 11, op := Op.alloc 38, type := 0, pos := "law.go:78", after := #[], guard := none }) rfl (fun K hK => ?_) (AllReadyH.cons (o := { dst := some 12, op := Op.alloc 38, type := 0, pos := "law.go:78", after := #[], guard := none }) rfl (fun K hK => ?_) AllReadyH.nil))
        · rw [if_pos (by rfl)]
          refine wp_alloc_of 38 7 rfl op_zero ?_
          intro cs hcs
          have hzx := NV.new (T := 38) (N0 := N3) (wr := wk) (HQS.out _ hk.q).2.2.2 hcs
          try have hne := Nat.ne_of_lt hzy.lt
          have hbA : Below wk.heap.size wk (wk.alloc (.cells cs 38)) := (Below.refl _ _).alloc (Nat.le_refl _) _
          replace hk := hk.step hbA
          try replace hzy := hzy.step hbA
          clear hbA hcs
          generalize hgn : wk.heap.size = gx at hzx ⊢
          try rw [hgn] at hne
          clear hgn
          first | generalize wk.alloc (.cells cs 38) = wk at hzx hzy hk ⊢ | generalize wk.alloc (.cells cs 38) = wk at hzx hk ⊢
          simp only [Act.put, List.setIfInBounds_toArray, List.set_cons_zero, List.set_cons_succ]
          refine hK.out _ _ hk (fun _ => ?_)
          clear hK K
          try simp only [Act.put, List.setIfInBounds_toArray, List.set_cons_zero, List.set_cons_succ]
          refine wpAnyH_ready (rs := [16]) (by decide +kernel) (by simp) ?_
          refine AllReadyH.cons (o := { dst := some 12, op := Op.alloc 38, type := 0, pos := "law.go:78", after := #[], guard := none }) rfl (fun K hK => ?_) AllReadyH.nil
          rw [if_pos (by rfl)]
          refine wp_alloc_of 38 7 rfl op_zero ?_
          intro cs hcs
          have hzy := NV.new (T := 38) (N0 := N3) (wr := wk) (HQS.out _ hk.q).2.2.2 hcs
          try have hne := Nat.ne_of_lt hzx.lt
          have hbA : Below wk.heap.size wk (wk.alloc (.cells cs 38)) := (Below.refl _ _).alloc (Nat.le_refl _) _
          replace hk := hk.step hbA
          try replace hzx := hzx.step hbA
          clear hbA hcs
          generalize hgn : wk.heap.size = gy at hzy ⊢
          try rw [hgn] at hne
          clear hgn
          first | generalize wk.alloc (.cells cs 38) = wk at hzx hzy hk ⊢ | generalize wk.alloc (.cells cs 38) = wk at hzy hk ⊢
          simp only [Act.put, List.setIfInBounds_toArray, List.set_cons_zero, List.set_cons_succ]
          refine hK.out _ _ hk (fun _ => ?_)
          clear hK K
          try simp only [Act.put, List.setIfInBounds_toArray, List.set_cons_zero, List.set_cons_succ]
          refine wpAnyH_ready (rs := [17]) (by decide +kernel) (by simp) ?_
          refine AllReadyH.cons (o := { dst := none, op := Op.store 38 (Operand.tmp 11) (Operand.tmp 45), type := 0, pos := "law.go:78", after := #[{ on := 15, ground := Ground.data }, { on := 6, ground := Ground.data }, { on := 0, ground := Ground.phase }, { on := 1, ground := Ground.phase }, { on := 2, ground := Ground.phase }, { on := 3, ground := Ground.phase }, { on := 4, ground := Ground.phase }, { on := 5, ground := Ground.phase }, { on := 6, ground := Ground.phase }, { on := 7, ground := Ground.textOnly Departure.lateStores }, { on := 8, ground := Ground.textOnly Departure.lateStores }, { on := 9, ground := Ground.textOnly Departure.lateStores }, { on := 10, ground := Ground.textOnly Departure.lateStores }, { on := 11, ground := Ground.textOnly Departure.lateStores }, { on := 12, ground := Ground.textOnly Departure.lateStores }, { on := 13, ground := Ground.textOnly Departure.lateStores }, { on := 14, ground := Ground.textOnly Departure.lateStores }, { on := 15, ground := Ground.phase }, { on := 16, ground := Ground.phase }], guard := none }) rfl (fun K hK => ?_) AllReadyH.nil
          rw [if_pos (by rfl)]
          refine wp_store_mid 38 (.tmp 11) (.tmp 45) rfl gx 0 #[.int .i64 X.c, .int .i64 X.o, .int .i64 X.a, .bool X.d, .int .i64 X.r, .int .i64 X.f, .int .i64 X.t] rfl rfl ?htosw618 op_size (op_one X) ?_
          case htosw618 => exact hzx.there rfl
          have hrx := hzx.put (D := #[.int .i64 X.c, .int .i64 X.o, .int .i64 X.a, .bool X.d, .int .i64 X.r, .int .i64 X.f, .int .i64 X.t]) rfl
          replace hzy := hzy.but (h := gx) (by omega) (#[.int .i64 X.c, .int .i64 X.o, .int .i64 X.a, .bool X.d, .int .i64 X.r, .int .i64 X.f, .int .i64 X.t] : Array Value).toList
          have hgex := hzx.ge
          replace hk : HX Qs w (wk.setCells gx 0 (#[.int .i64 X.c, .int .i64 X.o, .int .i64 X.a, .bool X.d, .int .i64 X.r, .int .i64 X.f, .int .i64 X.t] : Array Value).toList) := ⟨below_setCells hk.low gx (Nat.le_trans HWN.out hgex) _ 0, hk.up, HQP.out _ _ _ hk.q hgex⟩
          clear hzx
          generalize wk.setCells gx 0 (#[.int .i64 X.c, .int .i64 X.o, .int .i64 X.a, .bool X.d, .int .i64 X.r, .int .i64 X.f, .int .i64 X.t] : Array Value).toList = wk at hk hrx hzy ⊢
          simp only [Act.put]
          refine hK.out _ _ hk (fun _ => ?_)
          clear hK K
          try simp only [Act.put, List.setIfInBounds_toArray, List.set_cons_zero, List.set_cons_succ]
          refine wpAnyH_ready (rs := [18]) (by decide +kernel) (by simp) ?_
          refine AllReadyH.cons (o := { dst := none, op := Op.store 38 (Operand.tmp 12) (Operand.tmp 53), type := 0, pos := "law.go:78", after := #[{ on := 16, ground := Ground.data }, { on := 14, ground := Ground.data }, { on := 17, ground := Ground.chain }, { on := 0, ground := Ground.phase }, { on := 1, ground := Ground.phase }, { on := 2, ground := Ground.phase }, { on := 3, ground := Ground.phase }, { on := 4, ground := Ground.phase }, { on := 5, ground := Ground.phase }, { on := 6, ground := Ground.phase }, { on := 7, ground := Ground.phase }, { on := 8, ground := Ground.phase }, { on := 9, ground := Ground.phase }, { on := 10, ground := Ground.phase }, { on := 11, ground := Ground.phase }, { on := 12, ground := Ground.phase }, { on := 13, ground := Ground.phase }, { on := 14, ground := Ground.phase }, { on := 15, ground := Ground.phase }, { on := 16, ground := Ground.phase }, { on := 17, ground := Ground.phase }], guard := none }) rfl (fun K hK => ?_) AllReadyH.nil
          rw [if_pos (by rfl)]
          refine wp_store_mid 38 (.tmp 12) (.tmp 53) rfl gy 0 #[.int .i64 Y.c, .int .i64 Y.o, .int .i64 Y.a, .bool Y.d, .int .i64 Y.r, .int .i64 Y.f, .int .i64 Y.t] rfl rfl ?htosw619 op_size (op_one Y) ?_
          case htosw619 => exact hzy.there rfl
          have hry := hzy.put (D := #[.int .i64 Y.c, .int .i64 Y.o, .int .i64 Y.a, .bool Y.d, .int .i64 Y.r, .int .i64 Y.f, .int .i64 Y.t]) rfl
          replace hrx := nv_but hrx (h := gy) (by omega) (#[.int .i64 Y.c, .int .i64 Y.o, .int .i64 Y.a, .bool Y.d, .int .i64 Y.r, .int .i64 Y.f, .int .i64 Y.t] : Array Value).toList
          have hgey := hzy.ge
          replace hk : HX Qs w (wk.setCells gy 0 (#[.int .i64 Y.c, .int .i64 Y.o, .int .i64 Y.a, .bool Y.d, .int .i64 Y.r, .int .i64 Y.f, .int .i64 Y.t] : Array Value).toList) := ⟨below_setCells hk.low gy (Nat.le_trans HWN.out hgey) _ 0, hk.up, HQP.out _ _ _ hk.q hgey⟩
          clear hzy
          generalize wk.setCells gy 0 (#[.int .i64 Y.c, .int .i64 Y.o, .int .i64 Y.a, .bool Y.d, .int .i64 Y.r, .int .i64 Y.f, .int .i64 Y.t] : Array Value).toList = wk at hk hry hrx ⊢
          simp only [Act.put]
          refine hK.out _ _ hk (fun _ => ?_)
          clear hK K
          try simp only [Act.put, List.setIfInBounds_toArray, List.set_cons_zero, List.set_cons_succ]
          refine wpAnyH_done (by decide +kernel) ?_ _
          go_wp2_with fail
          go_meet
          case rel => exact ⟨gx, gy, rfl, rfl, ⟨by omega, hgex, hgey, hrx, hry, hk⟩⟩
        · rw [if_pos (by rfl)]
          refine wp_alloc_of 38 7 rfl op_zero ?_
          intro cs hcs
          have hzy := NV.new (T := 38) (N0 := N3) (wr := wk) (HQS.out _ hk.q).2.2.2 hcs
          try have hne := Nat.ne_of_lt hzx.lt
          have hbA : Below wk.heap.size wk (wk.alloc (.cells cs 38)) := (Below.refl _ _).alloc (Nat.le_refl _) _
          replace hk := hk.step hbA
          try replace hzx := hzx.step hbA
          clear hbA hcs
          generalize hgn : wk.heap.size = gy at hzy ⊢
          try rw [hgn] at hne
          clear hgn
          first | generalize wk.alloc (.cells cs 38) = wk at hzx hzy hk ⊢ | generalize wk.alloc (.cells cs 38) = wk at hzy hk ⊢
          simp only [Act.put, List.setIfInBounds_toArray, List.set_cons_zero, List.set_cons_succ]
          refine hK.out _ _ hk (fun _ => ?_)
          clear hK K
          try simp only [Act.put, List.setIfInBounds_toArray, List.set_cons_zero, List.set_cons_succ]
          refine wpAnyH_ready (rs := [15]) (by decide +kernel) (by simp) ?_
          refine AllReadyH.cons (o := { dst := some 11, op := Op.alloc 38, type := 0, pos := "law.go:78", after := #[], guard := none }) rfl (fun K hK => ?_) AllReadyH.nil
          rw [if_pos (by rfl)]
          refine wp_alloc_of 38 7 rfl op_zero ?_
          intro cs hcs
          have hzx := NV.new (T := 38) (N0 := N3) (wr := wk) (HQS.out _ hk.q).2.2.2 hcs
          try have hne := Nat.ne_of_lt hzy.lt
          have hbA : Below wk.heap.size wk (wk.alloc (.cells cs 38)) := (Below.refl _ _).alloc (Nat.le_refl _) _
          replace hk := hk.step hbA
          try replace hzy := hzy.step hbA
          clear hbA hcs
          generalize hgn : wk.heap.size = gx at hzx ⊢
          try rw [hgn] at hne
          clear hgn
          first | generalize wk.alloc (.cells cs 38) = wk at hzx hzy hk ⊢ | generalize wk.alloc (.cells cs 38) = wk at hzx hk ⊢
          simp only [Act.put, List.setIfInBounds_toArray, List.set_cons_zero, List.set_cons_succ]
          refine hK.out _ _ hk (fun _ => ?_)
          clear hK K
          try simp only [Act.put, List.setIfInBounds_toArray, List.set_cons_zero, List.set_cons_succ]
          refine wpAnyH_ready (rs := [17]) (by decide +kernel) (by simp) ?_
          refine AllReadyH.cons (o := { dst := none, op := Op.store 38 (Operand.tmp 11) (Operand.tmp 45), type := 0, pos := "law.go:78", after := #[{ on := 15, ground := Ground.data }, { on := 6, ground := Ground.data }, { on := 0, ground := Ground.phase }, { on := 1, ground := Ground.phase }, { on := 2, ground := Ground.phase }, { on := 3, ground := Ground.phase }, { on := 4, ground := Ground.phase }, { on := 5, ground := Ground.phase }, { on := 6, ground := Ground.phase }, { on := 7, ground := Ground.textOnly Departure.lateStores }, { on := 8, ground := Ground.textOnly Departure.lateStores }, { on := 9, ground := Ground.textOnly Departure.lateStores }, { on := 10, ground := Ground.textOnly Departure.lateStores }, { on := 11, ground := Ground.textOnly Departure.lateStores }, { on := 12, ground := Ground.textOnly Departure.lateStores }, { on := 13, ground := Ground.textOnly Departure.lateStores }, { on := 14, ground := Ground.textOnly Departure.lateStores }, { on := 15, ground := Ground.phase }, { on := 16, ground := Ground.phase }], guard := none }) rfl (fun K hK => ?_) AllReadyH.nil
          rw [if_pos (by rfl)]
          refine wp_store_mid 38 (.tmp 11) (.tmp 45) rfl gx 0 #[.int .i64 X.c, .int .i64 X.o, .int .i64 X.a, .bool X.d, .int .i64 X.r, .int .i64 X.f, .int .i64 X.t] rfl rfl ?htosw622 op_size (op_one X) ?_
          case htosw622 => exact hzx.there rfl
          have hrx := hzx.put (D := #[.int .i64 X.c, .int .i64 X.o, .int .i64 X.a, .bool X.d, .int .i64 X.r, .int .i64 X.f, .int .i64 X.t]) rfl
          replace hzy := hzy.but (h := gx) (by omega) (#[.int .i64 X.c, .int .i64 X.o, .int .i64 X.a, .bool X.d, .int .i64 X.r, .int .i64 X.f, .int .i64 X.t] : Array Value).toList
          have hgex := hzx.ge
          replace hk : HX Qs w (wk.setCells gx 0 (#[.int .i64 X.c, .int .i64 X.o, .int .i64 X.a, .bool X.d, .int .i64 X.r, .int .i64 X.f, .int .i64 X.t] : Array Value).toList) := ⟨below_setCells hk.low gx (Nat.le_trans HWN.out hgex) _ 0, hk.up, HQP.out _ _ _ hk.q hgex⟩
          clear hzx
          generalize wk.setCells gx 0 (#[.int .i64 X.c, .int .i64 X.o, .int .i64 X.a, .bool X.d, .int .i64 X.r, .int .i64 X.f, .int .i64 X.t] : Array Value).toList = wk at hk hrx hzy ⊢
          simp only [Act.put]
          refine hK.out _ _ hk (fun _ => ?_)
          clear hK K
          try simp only [Act.put, List.setIfInBounds_toArray, List.set_cons_zero, List.set_cons_succ]
          refine wpAnyH_ready (rs := [18]) (by decide +kernel) (by simp) ?_
          refine AllReadyH.cons (o := { dst := none, op := Op.store 38 (Operand.tmp 12) (Operand.tmp 53), type := 0, pos := "law.go:78", after := #[{ on := 16, ground := Ground.data }, { on := 14, ground := Ground.data }, { on := 17, ground := Ground.chain }, { on := 0, ground := Ground.phase }, { on := 1, ground := Ground.phase }, { on := 2, ground := Ground.phase }, { on := 3, ground := Ground.phase }, { on := 4, ground := Ground.phase }, { on := 5, ground := Ground.phase }, { on := 6, ground := Ground.phase }, { on := 7, ground := Ground.phase }, { on := 8, ground := Ground.phase }, { on := 9, ground := Ground.phase }, { on := 10, ground := Ground.phase }, { on := 11, ground := Ground.phase }, { on := 12, ground := Ground.phase }, { on := 13, ground := Ground.phase }, { on := 14, ground := Ground.phase }, { on := 15, ground := Ground.phase }, { on := 16, ground := Ground.phase }, { on := 17, ground := Ground.phase }], guard := none }) rfl (fun K hK => ?_) AllReadyH.nil
          rw [if_pos (by rfl)]
          refine wp_store_mid 38 (.tmp 12) (.tmp 53) rfl gy 0 #[.int .i64 Y.c, .int .i64 Y.o, .int .i64 Y.a, .bool Y.d, .int .i64 Y.r, .int .i64 Y.f, .int .i64 Y.t] rfl rfl ?htosw623 op_size (op_one Y) ?_
          case htosw623 => exact hzy.there rfl
          have hry := hzy.put (D := #[.int .i64 Y.c, .int .i64 Y.o, .int .i64 Y.a, .bool Y.d, .int .i64 Y.r, .int .i64 Y.f, .int .i64 Y.t]) rfl
          replace hrx := nv_but hrx (h := gy) (by omega) (#[.int .i64 Y.c, .int .i64 Y.o, .int .i64 Y.a, .bool Y.d, .int .i64 Y.r, .int .i64 Y.f, .int .i64 Y.t] : Array Value).toList
          have hgey := hzy.ge
          replace hk : HX Qs w (wk.setCells gy 0 (#[.int .i64 Y.c, .int .i64 Y.o, .int .i64 Y.a, .bool Y.d, .int .i64 Y.r, .int .i64 Y.f, .int .i64 Y.t] : Array Value).toList) := ⟨below_setCells hk.low gy (Nat.le_trans HWN.out hgey) _ 0, hk.up, HQP.out _ _ _ hk.q hgey⟩
          clear hzy
          generalize wk.setCells gy 0 (#[.int .i64 Y.c, .int .i64 Y.o, .int .i64 Y.a, .bool Y.d, .int .i64 Y.r, .int .i64 Y.f, .int .i64 Y.t] : Array Value).toList = wk at hk hry hrx ⊢
          simp only [Act.put]
          refine hK.out _ _ hk (fun _ => ?_)
          clear hK K
          try simp only [Act.put, List.setIfInBounds_toArray, List.set_cons_zero, List.set_cons_succ]
          refine wpAnyH_done (by decide +kernel) ?_ _
          go_wp2_with fail
          go_meet
          case rel => exact ⟨gx, gy, rfl, rfl, ⟨by omega, hgex, hgey, hrx, hry, hk⟩⟩
      case rest =>
        obtain ⟨gx, gy, rfl, rfl, HZ⟩ := hcut
        obtain ⟨w5, hw5⟩ : ∃ w5, w5 = wc := ⟨_, rfl⟩
        subst hw5
        obtain ⟨Qr, HR0⟩ : ∃ Qr : World → Prop, Bx (Qr = fun W => Ics W (some ⟨b0, o0, none⟩) nL cL L ∧ Ors W (some ⟨b2, o2, none⟩) n cO O ∧ W.heap[gx]? = some (.cells #[.int .i64 X.c, .int .i64 X.o, .int .i64 X.a, .bool X.d, .int .i64 X.r, .int .i64 X.f, .int .i64 X.t] 38 (0, 0)) ∧ W.heap[gy]? = some (.cells #[.int .i64 Y.c, .int .i64 Y.o, .int .i64 Y.a, .bool Y.d, .int .i64 Y.r, .int .i64 Y.f, .int .i64 Y.t] 38 (0, 0))) := ⟨_, ⟨rfl⟩⟩
        have HQR : Bx (∀ W, Qr W → Ics W (some ⟨b0, o0, none⟩) nL cL L ∧ Ors W (some ⟨b2, o2, none⟩) n cO O ∧ W.heap[gx]? = some (.cells #[.int .i64 X.c, .int .i64 X.o, .int .i64 X.a, .bool X.d, .int .i64 X.r, .int .i64 X.f, .int .i64 X.t] 38 (0, 0)) ∧ W.heap[gy]? = some (.cells #[.int .i64 Y.c, .int .i64 Y.o, .int .i64 Y.a, .bool Y.d, .int .i64 Y.r, .int .i64 Y.f, .int .i64 Y.t] 38 (0, 0))) := ⟨fun W h => by rw [HR0.out] at h; exact h⟩
        have HQR2 : Bx (∀ W j v, Qr W → Qr (W.setCell ⟨gJ, j, none⟩ v)) := ⟨fun W j v h => by
          rw [HR0.out] at h ⊢
          have hh := HLTN.out
          have hz := HZ.out
          exact ⟨h.1.keep (fun p e _ => by cases e; exact heap_setCell_other _ ⟨gJ, j, none⟩ b0 _ (show b0 ≠ gJ by omega)) (by simp), h.2.1.keep (fun p e _ => by cases e; exact heap_setCell_other _ ⟨gJ, j, none⟩ b2 _ (show b2 ≠ gJ by omega)) (by simp), (heap_setCell_other _ ⟨gJ, j, none⟩ gx _ (show gx ≠ gJ by have := hz.2.1; omega)).trans h.2.2.1, (heap_setCell_other _ ⟨gJ, j, none⟩ gy _ (show gy ≠ gJ by have := hz.2.2.1; omega)).trans h.2.2.2⟩⟩
        have hd : Below w5.heap.size w5 w5.drew := (Below.refl _ _).drew
        have hj : w5.drew.ownsRow N 3 1 (.slice (some ⟨gJ, 0, none⟩) m cJ) m (J.flatMap ivC) := owns_below (HQS.out _ HZ.out.2.2.2.2.2.q).2.2.1 hd
        have hk : HX Qr w w5.drew := ⟨HZ.out.2.2.2.2.2.low.drew, by
          rw [HR0.out]
          exact fun W W' h hb => ⟨h.1.below hb, h.2.1.below hb, up_row _ _ h.2.2.1 hb, up_row _ _ h.2.2.2 hb⟩, by
          rw [HR0.out]
          exact ⟨(HQS.out _ HZ.out.2.2.2.2.2.q).1.below hd, (HQS.out _ HZ.out.2.2.2.2.2.q).2.1.below hd, up_row _ _ HZ.out.2.2.2.1 hd, up_row _ _ HZ.out.2.2.2.2.1 hd⟩⟩
        clear HR0 hd HHK HQS HQP
        go_upto_region 7 with fail
        go_cut [13] from 54 to 69 (fun s13 wx => s13 = undef ∧ Bx (wx.ownsRow N 3 1 (.slice (some ⟨gJ, 0, none⟩) m cJ) m (((J.set q (r : Int)).set q1 (p : Int)).flatMap ivC) ∧ HX Qr w wx))
        case first =>
          clear HSW HZ
          refine wp_region_held_drew (S := fun W => HX Qr w W) (by kernel_rfl) hk (fun _ => ?_)
          generalize w5.drew = wk at hk hj ⊢
          have c0 := own_iv hj HM.out q hqm HXP.out
          have c1 := own_iv hj HM.out q1 hqm1 HYP.out
          have f0 := hj.frozenAt q
          refine wpAnyH_take (i := 0) (oi := { dst := some 54, op := Op.move (Operand.tmp 3), type := 24, pos := "law.go:79", after := #[], guard := none }) (v := ?vosw71) rfl (by kernel_rfl) (by kernel_rfl) (by kernel_rfl) (fun _ _ _ h => h) (Or.inl ⟨by rfl, ?yosw71⟩) hk ?rosw71
          case yosw71 => (intro w hSw; (try dsimp only at hSw); go_simp; first | done | with_reducible rfl)
          simp only [Act.put, List.setIfInBounds_toArray, List.set_cons_zero, List.set_cons_succ]
          refine wpAnyH_take (i := 1) (oi := { dst := some 55, op := Op.move (Operand.tmp 4), type := 3, pos := "law.go:79", after := #[], guard := none }) (v := ?vosw72) rfl (by kernel_rfl) (by kernel_rfl) (by kernel_rfl) (fun _ _ _ h => h) (Or.inl ⟨by rfl, ?yosw72⟩) hk ?rosw72
          case yosw72 => (intro w hSw; (try dsimp only at hSw); go_simp; first | done | with_reducible rfl)
          simp only [Act.put, List.setIfInBounds_toArray, List.set_cons_zero, List.set_cons_succ]
          refine wpAnyH_take (i := 2) (oi := { dst := some 56, op := Op.move (Operand.tmp 3), type := 24, pos := "law.go:79", after := #[{ on := 15, ground := Ground.gcOnly Departure.lateStores }], guard := none }) (v := ?vosw73) rfl (by kernel_rfl) (by kernel_rfl) (by kernel_rfl) (fun _ _ _ h => h) (Or.inl ⟨by rfl, ?yosw73⟩) hk ?rosw73
          case yosw73 => (intro w hSw; (try dsimp only at hSw); go_simp; first | done | with_reducible rfl)
          simp only [Act.put, List.setIfInBounds_toArray, List.set_cons_zero, List.set_cons_succ]
          refine wpAnyH_take (i := 3) (oi := { dst := some 57, op := Op.move (Operand.tmp 4), type := 3, pos := "law.go:79", after := #[{ on := 15, ground := Ground.gcOnly Departure.lateStores }], guard := none }) (v := ?vosw74) rfl (by kernel_rfl) (by kernel_rfl) (by kernel_rfl) (fun _ _ _ h => h) (Or.inl ⟨by rfl, ?yosw74⟩) hk ?rosw74
          case yosw74 => (intro w hSw; (try dsimp only at hSw); go_simp; first | done | with_reducible rfl)
          simp only [Act.put, List.setIfInBounds_toArray, List.set_cons_zero, List.set_cons_succ]
          refine wpAnyH_take (i := 4) (oi := { dst := some 58, op := Op.binOp BinOp.add 3 (Operand.tmp 57) (Operand.const (Value.int IntKind.i64 1)) 3, type := 3, pos := "law.go:79", after := #[{ on := 3, ground := Ground.data }, { on := 15, ground := Ground.gcOnly Departure.lateStores }], guard := none }) (v := ?vosw75) rfl (by kernel_rfl) (by kernel_rfl) (by kernel_rfl) (fun _ _ _ h => h) (Or.inl ⟨by rfl, ?yosw75⟩) hk ?rosw75
          case yosw75 => (intro w hSw; (try dsimp only at hSw); go_simp; first | done | with_reducible rfl)
          simp only [Act.put, List.setIfInBounds_toArray, List.set_cons_zero, List.set_cons_succ]
          refine wpAnyH_take (i := 5) (oi := { dst := some 59, op := Op.move (Operand.tmp 3), type := 24, pos := "law.go:79", after := #[], guard := none }) (v := ?vosw76) rfl (by kernel_rfl) (by kernel_rfl) (by kernel_rfl) (fun _ _ _ h => h) (Or.inl ⟨by rfl, ?yosw76⟩) hk ?rosw76
          case yosw76 => (intro w hSw; (try dsimp only at hSw); go_simp; first | done | with_reducible rfl)
          simp only [Act.put, List.setIfInBounds_toArray, List.set_cons_zero, List.set_cons_succ]
          refine wpAnyH_take (i := 6) (oi := { dst := some 60, op := Op.move (Operand.tmp 4), type := 3, pos := "law.go:79", after := #[], guard := none }) (v := ?vosw77) rfl (by kernel_rfl) (by kernel_rfl) (by kernel_rfl) (fun _ _ _ h => h) (Or.inl ⟨by rfl, ?yosw77⟩) hk ?rosw77
          case yosw77 => (intro w hSw; (try dsimp only at hSw); go_simp; first | done | with_reducible rfl)
          simp only [Act.put, List.setIfInBounds_toArray, List.set_cons_zero, List.set_cons_succ]
          refine wpAnyH_take (i := 7) (oi := { dst := some 61, op := Op.binOp BinOp.add 3 (Operand.tmp 60) (Operand.const (Value.int IntKind.i64 1)) 3, type := 3, pos := "law.go:79", after := #[{ on := 6, ground := Ground.data }], guard := none }) (v := ?vosw78) rfl (by kernel_rfl) (by kernel_rfl) (by kernel_rfl) (fun _ _ _ h => h) (Or.inl ⟨by rfl, ?yosw78⟩) hk ?rosw78
          case yosw78 => (intro w hSw; (try dsimp only at hSw); go_simp; first | done | with_reducible rfl)
          simp only [Act.put, List.setIfInBounds_toArray, List.set_cons_zero, List.set_cons_succ]
          refine wpAnyH_take (i := 8) (oi := { dst := some 62, op := Op.indexAddr 24 (Operand.tmp 59) (Operand.tmp 61), type := 0, pos := "law.go:79", after := #[{ on := 5, ground := Ground.data }, { on := 7, ground := Ground.data }], guard := none }) (v := ?vosw79) rfl (by kernel_rfl) (by kernel_rfl) (by kernel_rfl) (fun _ _ _ h => h) (Or.inl ⟨by rfl, ?yosw79⟩) hk ?rosw79
          case yosw79 => (intro w hSw; (try dsimp only at hSw); go_simp; first | done | with_reducible rfl)
          simp only [Act.put, List.setIfInBounds_toArray, List.set_cons_zero, List.set_cons_succ]
          refine wpAnyH_take (i := 10) (oi := { dst := some 64, op := Op.move (Operand.tmp 3), type := 24, pos := "law.go:79", after := #[], guard := none }) (v := ?vosw710) rfl (by kernel_rfl) (by kernel_rfl) (by kernel_rfl) (fun _ _ _ h => h) (Or.inl ⟨by rfl, ?yosw710⟩) hk ?rosw710
          case yosw710 => (intro w hSw; (try dsimp only at hSw); go_simp; first | done | with_reducible rfl)
          simp only [Act.put, List.setIfInBounds_toArray, List.set_cons_zero, List.set_cons_succ]
          refine wpAnyH_take (i := 11) (oi := { dst := some 65, op := Op.move (Operand.tmp 4), type := 3, pos := "law.go:79", after := #[], guard := none }) (v := ?vosw711) rfl (by kernel_rfl) (by kernel_rfl) (by kernel_rfl) (fun _ _ _ h => h) (Or.inl ⟨by rfl, ?yosw711⟩) hk ?rosw711
          case yosw711 => (intro w hSw; (try dsimp only at hSw); go_simp; first | done | with_reducible rfl)
          simp only [Act.put, List.setIfInBounds_toArray, List.set_cons_zero, List.set_cons_succ]
          refine wpAnyH_take (i := 12) (oi := { dst := some 66, op := Op.indexAddr 24 (Operand.tmp 64) (Operand.tmp 65), type := 0, pos := "law.go:79", after := #[{ on := 10, ground := Ground.data }, { on := 11, ground := Ground.data }], guard := none }) (v := ?vosw712) rfl (by kernel_rfl) (by kernel_rfl) (by kernel_rfl) (fun _ _ _ h => h) (Or.inl ⟨by rfl, ?yosw712⟩) hk ?rosw712
          case yosw712 => (intro w hSw; (try dsimp only at hSw); go_simp; first | done | with_reducible rfl)
          simp only [Act.put, List.setIfInBounds_toArray, List.set_cons_zero, List.set_cons_succ]
          refine wpAnyH_ready (rs := [9, 13]) (by decide +kernel) (by simp) ?_
          refine (AllReadyH.cons (o := { dst := some 63, op := Op.load 3 (Operand.tmp 62), type := 3, pos := "law.go:79", after := #[{ on := 8, ground := Ground.data }], guard := none }) rfl (fun K hK => ?_) (AllReadyH.cons (o := { dst := some 67, op := Op.load 3 (Operand.tmp 66), type := 3, pos := "law.go:79", after := #[{ on := 12, ground := Ground.data }], guard := none }) rfl (fun K hK => ?_) AllReadyH.nil))
          · go_simp
            refine hK.out _ _ hk (fun _ => ?_)
            clear hK K
            try simp only [Act.put, List.setIfInBounds_toArray, List.set_cons_zero, List.set_cons_succ]
            refine wpAnyH_ready (rs := [13]) (by decide +kernel) (by simp) ?_
            refine AllReadyH.cons (o := { dst := some 67, op := Op.load 3 (Operand.tmp 66), type := 3, pos := "law.go:79", after := #[{ on := 12, ground := Ground.data }], guard := none }) rfl (fun K hK => ?_) AllReadyH.nil
            go_simp
            refine hK.out _ _ hk (fun _ => ?_)
            clear hK K
            try simp only [Act.put, List.setIfInBounds_toArray, List.set_cons_zero, List.set_cons_succ]
            refine wpAnyH_take (i := 14) (oi := { dst := some 68, op := Op.indexAddr 24 (Operand.tmp 54) (Operand.tmp 55), type := 0, pos := "law.go:79", after := #[{ on := 0, ground := Ground.data }, { on := 1, ground := Ground.data }, { on := 0, ground := Ground.phase }, { on := 1, ground := Ground.phase }, { on := 2, ground := Ground.textOnly Departure.lateStores }, { on := 3, ground := Ground.textOnly Departure.lateStores }, { on := 4, ground := Ground.textOnly Departure.lateStores }, { on := 5, ground := Ground.phase }, { on := 6, ground := Ground.phase }, { on := 7, ground := Ground.phase }, { on := 8, ground := Ground.phase }, { on := 9, ground := Ground.phase }, { on := 10, ground := Ground.textOnly Departure.lateStores }, { on := 11, ground := Ground.textOnly Departure.lateStores }, { on := 12, ground := Ground.textOnly Departure.lateStoresUnsure }, { on := 13, ground := Ground.phase }], guard := none }) (v := ?vosw713) rfl (by kernel_rfl) (by kernel_rfl) (by kernel_rfl) (fun _ _ _ h => h) (Or.inl ⟨by rfl, ?yosw713⟩) hk ?rosw713
            case yosw713 => (intro w hSw; (try dsimp only at hSw); go_simp; first | done | with_reducible rfl)
            simp only [Act.put, List.setIfInBounds_toArray, List.set_cons_zero, List.set_cons_succ]
            refine wpAnyH_ready (rs := [15]) (by decide +kernel) (by simp) ?_
            refine AllReadyH.cons (o := { dst := none, op := Op.store 3 (Operand.tmp 68) (Operand.tmp 63), type := 0, pos := "law.go:79", after := #[{ on := 14, ground := Ground.data }, { on := 9, ground := Ground.data }, { on := 0, ground := Ground.phase }, { on := 1, ground := Ground.phase }, { on := 2, ground := Ground.textOnly Departure.lateStores }, { on := 3, ground := Ground.textOnly Departure.lateStores }, { on := 4, ground := Ground.textOnly Departure.lateStores }, { on := 5, ground := Ground.phase }, { on := 6, ground := Ground.phase }, { on := 7, ground := Ground.phase }, { on := 8, ground := Ground.phase }, { on := 9, ground := Ground.phase }, { on := 10, ground := Ground.textOnly Departure.lateStores }, { on := 11, ground := Ground.textOnly Departure.lateStores }, { on := 12, ground := Ground.textOnly Departure.lateStoresUnsure }, { on := 13, ground := Ground.phase }], guard := none }) rfl (fun K hK => ?_) AllReadyH.nil
            go_simp
            have hj1 := own_put hj q (r : Int)
            replace hk : HX Qr w (wk.setCell ⟨gJ, q, none⟩ (.int .i64 (r : Int))) := ⟨hk.low.setCell (p := ⟨gJ, q, none⟩) HWJ.out _, hk.up, HQR2.out _ _ _ hk.q⟩
            clear c0 c1 f0 hj
            generalize wk.setCell ⟨gJ, q, none⟩ (.int .i64 (r : Int)) = wk at hk hj1 ⊢
            have c1 := own_iv hj1 (by rw [List.length_set]; exact HM.out) q1 hqm1 rfl
            have f1 := hj1.frozenAt q1
            refine hK.out _ _ hk (fun _ => ?_)
            clear hK K
            try simp only [Act.put, List.setIfInBounds_toArray, List.set_cons_zero, List.set_cons_succ]
            refine wpAnyH_take (i := 16) (oi := { dst := some 69, op := Op.indexAddr 24 (Operand.tmp 56) (Operand.tmp 58), type := 0, pos := "law.go:79", after := #[{ on := 2, ground := Ground.data }, { on := 4, ground := Ground.data }, { on := 0, ground := Ground.phase }, { on := 1, ground := Ground.phase }, { on := 2, ground := Ground.phase }, { on := 3, ground := Ground.phase }, { on := 4, ground := Ground.phase }, { on := 5, ground := Ground.phase }, { on := 6, ground := Ground.phase }, { on := 7, ground := Ground.phase }, { on := 8, ground := Ground.phase }, { on := 9, ground := Ground.phase }, { on := 10, ground := Ground.phase }, { on := 11, ground := Ground.phase }, { on := 12, ground := Ground.phase }, { on := 13, ground := Ground.phase }, { on := 14, ground := Ground.phase }, { on := 15, ground := Ground.phase }], guard := none }) (v := ?vosw714) rfl (by kernel_rfl) (by kernel_rfl) (by kernel_rfl) (fun _ _ _ h => h) (Or.inl ⟨by rfl, ?yosw714⟩) hk ?rosw714
            case yosw714 => (intro w hSw; (try dsimp only at hSw); go_simp; first | done | with_reducible rfl)
            simp only [Act.put, List.setIfInBounds_toArray, List.set_cons_zero, List.set_cons_succ]
            refine wpAnyH_ready (rs := [17]) (by decide +kernel) (by simp) ?_
            refine AllReadyH.cons (o := { dst := none, op := Op.store 3 (Operand.tmp 69) (Operand.tmp 67), type := 0, pos := "law.go:79", after := #[{ on := 16, ground := Ground.data }, { on := 13, ground := Ground.data }, { on := 15, ground := Ground.chain }, { on := 0, ground := Ground.phase }, { on := 1, ground := Ground.phase }, { on := 2, ground := Ground.phase }, { on := 3, ground := Ground.phase }, { on := 4, ground := Ground.phase }, { on := 5, ground := Ground.phase }, { on := 6, ground := Ground.phase }, { on := 7, ground := Ground.phase }, { on := 8, ground := Ground.phase }, { on := 9, ground := Ground.phase }, { on := 10, ground := Ground.phase }, { on := 11, ground := Ground.phase }, { on := 12, ground := Ground.phase }, { on := 13, ground := Ground.phase }, { on := 14, ground := Ground.phase }, { on := 15, ground := Ground.phase }], guard := none }) rfl (fun K hK => ?_) AllReadyH.nil
            go_simp
            have hj2 := own_put hj1 q1 (p : Int)
            replace hk : HX Qr w (wk.setCell ⟨gJ, q1, none⟩ (.int .i64 (p : Int))) := ⟨hk.low.setCell (p := ⟨gJ, q1, none⟩) HWJ.out _, hk.up, HQR2.out _ _ _ hk.q⟩
            clear c1 f1 hj1
            generalize wk.setCell ⟨gJ, q1, none⟩ (.int .i64 (p : Int)) = wk at hk hj2 ⊢
            refine hK.out _ _ hk (fun _ => ?_)
            clear hK K
            try simp only [Act.put, List.setIfInBounds_toArray, List.set_cons_zero, List.set_cons_succ]
            refine wpAnyH_done (by decide +kernel) ?_ _
            go_wp2_with fail
            go_meet
            case rel => exact ⟨rfl, ⟨hj2, hk⟩⟩
          · go_simp
            refine hK.out _ _ hk (fun _ => ?_)
            clear hK K
            try simp only [Act.put, List.setIfInBounds_toArray, List.set_cons_zero, List.set_cons_succ]
            refine wpAnyH_ready (rs := [9]) (by decide +kernel) (by simp) ?_
            refine AllReadyH.cons (o := { dst := some 63, op := Op.load 3 (Operand.tmp 62), type := 3, pos := "law.go:79", after := #[{ on := 8, ground := Ground.data }], guard := none }) rfl (fun K hK => ?_) AllReadyH.nil
            go_simp
            refine hK.out _ _ hk (fun _ => ?_)
            clear hK K
            try simp only [Act.put, List.setIfInBounds_toArray, List.set_cons_zero, List.set_cons_succ]
            refine wpAnyH_take (i := 14) (oi := { dst := some 68, op := Op.indexAddr 24 (Operand.tmp 54) (Operand.tmp 55), type := 0, pos := "law.go:79", after := #[{ on := 0, ground := Ground.data }, { on := 1, ground := Ground.data }, { on := 0, ground := Ground.phase }, { on := 1, ground := Ground.phase }, { on := 2, ground := Ground.textOnly Departure.lateStores }, { on := 3, ground := Ground.textOnly Departure.lateStores }, { on := 4, ground := Ground.textOnly Departure.lateStores }, { on := 5, ground := Ground.phase }, { on := 6, ground := Ground.phase }, { on := 7, ground := Ground.phase }, { on := 8, ground := Ground.phase }, { on := 9, ground := Ground.phase }, { on := 10, ground := Ground.textOnly Departure.lateStores }, { on := 11, ground := Ground.textOnly Departure.lateStores }, { on := 12, ground := Ground.textOnly Departure.lateStoresUnsure }, { on := 13, ground := Ground.phase }], guard := none }) (v := ?vosw715) rfl (by kernel_rfl) (by kernel_rfl) (by kernel_rfl) (fun _ _ _ h => h) (Or.inl ⟨by rfl, ?yosw715⟩) hk ?rosw715
            case yosw715 => (intro w hSw; (try dsimp only at hSw); go_simp; first | done | with_reducible rfl)
            simp only [Act.put, List.setIfInBounds_toArray, List.set_cons_zero, List.set_cons_succ]
            refine wpAnyH_ready (rs := [15]) (by decide +kernel) (by simp) ?_
            refine AllReadyH.cons (o := { dst := none, op := Op.store 3 (Operand.tmp 68) (Operand.tmp 63), type := 0, pos := "law.go:79", after := #[{ on := 14, ground := Ground.data }, { on := 9, ground := Ground.data }, { on := 0, ground := Ground.phase }, { on := 1, ground := Ground.phase }, { on := 2, ground := Ground.textOnly Departure.lateStores }, { on := 3, ground := Ground.textOnly Departure.lateStores }, { on := 4, ground := Ground.textOnly Departure.lateStores }, { on := 5, ground := Ground.phase }, { on := 6, ground := Ground.phase }, { on := 7, ground := Ground.phase }, { on := 8, ground := Ground.phase }, { on := 9, ground := Ground.phase }, { on := 10, ground := Ground.textOnly Departure.lateStores }, { on := 11, ground := Ground.textOnly Departure.lateStores }, { on := 12, ground := Ground.textOnly Departure.lateStoresUnsure }, { on := 13, ground := Ground.phase }], guard := none }) rfl (fun K hK => ?_) AllReadyH.nil
            go_simp
            have hj1 := own_put hj q (r : Int)
            replace hk : HX Qr w (wk.setCell ⟨gJ, q, none⟩ (.int .i64 (r : Int))) := ⟨hk.low.setCell (p := ⟨gJ, q, none⟩) HWJ.out _, hk.up, HQR2.out _ _ _ hk.q⟩
            clear c0 c1 f0 hj
            generalize wk.setCell ⟨gJ, q, none⟩ (.int .i64 (r : Int)) = wk at hk hj1 ⊢
            have c1 := own_iv hj1 (by rw [List.length_set]; exact HM.out) q1 hqm1 rfl
            have f1 := hj1.frozenAt q1
            refine hK.out _ _ hk (fun _ => ?_)
            clear hK K
            try simp only [Act.put, List.setIfInBounds_toArray, List.set_cons_zero, List.set_cons_succ]
            refine wpAnyH_take (i := 16) (oi := { dst := some 69, op := Op.indexAddr 24 (Operand.tmp 56) (Operand.tmp 58), type := 0, pos := "law.go:79", after := #[{ on := 2, ground := Ground.data }, { on := 4, ground := Ground.data }, { on := 0, ground := Ground.phase }, { on := 1, ground := Ground.phase }, { on := 2, ground := Ground.phase }, { on := 3, ground := Ground.phase }, { on := 4, ground := Ground.phase }, { on := 5, ground := Ground.phase }, { on := 6, ground := Ground.phase }, { on := 7, ground := Ground.phase }, { on := 8, ground := Ground.phase }, { on := 9, ground := Ground.phase }, { on := 10, ground := Ground.phase }, { on := 11, ground := Ground.phase }, { on := 12, ground := Ground.phase }, { on := 13, ground := Ground.phase }, { on := 14, ground := Ground.phase }, { on := 15, ground := Ground.phase }], guard := none }) (v := ?vosw716) rfl (by kernel_rfl) (by kernel_rfl) (by kernel_rfl) (fun _ _ _ h => h) (Or.inl ⟨by rfl, ?yosw716⟩) hk ?rosw716
            case yosw716 => (intro w hSw; (try dsimp only at hSw); go_simp; first | done | with_reducible rfl)
            simp only [Act.put, List.setIfInBounds_toArray, List.set_cons_zero, List.set_cons_succ]
            refine wpAnyH_ready (rs := [17]) (by decide +kernel) (by simp) ?_
            refine AllReadyH.cons (o := { dst := none, op := Op.store 3 (Operand.tmp 69) (Operand.tmp 67), type := 0, pos := "law.go:79", after := #[{ on := 16, ground := Ground.data }, { on := 13, ground := Ground.data }, { on := 15, ground := Ground.chain }, { on := 0, ground := Ground.phase }, { on := 1, ground := Ground.phase }, { on := 2, ground := Ground.phase }, { on := 3, ground := Ground.phase }, { on := 4, ground := Ground.phase }, { on := 5, ground := Ground.phase }, { on := 6, ground := Ground.phase }, { on := 7, ground := Ground.phase }, { on := 8, ground := Ground.phase }, { on := 9, ground := Ground.phase }, { on := 10, ground := Ground.phase }, { on := 11, ground := Ground.phase }, { on := 12, ground := Ground.phase }, { on := 13, ground := Ground.phase }, { on := 14, ground := Ground.phase }, { on := 15, ground := Ground.phase }], guard := none }) rfl (fun K hK => ?_) AllReadyH.nil
            go_simp
            have hj2 := own_put hj1 q1 (p : Int)
            replace hk : HX Qr w (wk.setCell ⟨gJ, q1, none⟩ (.int .i64 (p : Int))) := ⟨hk.low.setCell (p := ⟨gJ, q1, none⟩) HWJ.out _, hk.up, HQR2.out _ _ _ hk.q⟩
            clear c1 f1 hj1
            generalize wk.setCell ⟨gJ, q1, none⟩ (.int .i64 (p : Int)) = wk at hk hj2 ⊢
            refine hK.out _ _ hk (fun _ => ?_)
            clear hK K
            try simp only [Act.put, List.setIfInBounds_toArray, List.set_cons_zero, List.set_cons_succ]
            refine wpAnyH_done (by decide +kernel) ?_ _
            go_wp2_with fail
            go_meet
            case rel => exact ⟨rfl, ⟨hj2, hk⟩⟩
        case rest =>
          obtain ⟨rfl, HZ6⟩ := hcut
          obtain ⟨w6, hw6⟩ : ∃ w6, w6 = wc := ⟨_, rfl⟩
          subst hw6
          have HSP : Bx ((J.set q (r : Int)).set q1 (p : Int) = swp J q) := ⟨by unfold swp; rw [← HQ1.out, HXP.out, HYP.out]⟩
          rw [HSP.out] at HZ6
          obtain ⟨aK, cK, e, hI6⟩ := Ls.of_owns ivC_len HZ6.out.1 (by rw [swp_len]; exact HM.out)
          cases e
          have HI6 := Bx.mk hI6
          have HK6 := Bx.mk HZ6.out.2
          have HE6 := Bx.mk (HQR.out _ HZ6.out.2.q).1
          have HO6 := Bx.mk (HQR.out _ HZ6.out.2.q).2.1
          clear hI6 hk hj HZ6 HZ HSP
          go_wp2_with fail
          refine (check17_any _ _ _ _ _ _ _ _ _ L f O (swp J q) _ HE6.out HLK1.out HVF.out HO6.out HOK1.out HI6.out).mono ?_
          rintro e w7 ⟨rfl, hb7⟩
          have hk7 := HK6.out.step hb7
          have hrows := (HQR.out _ hk7.q).2.2
          have x0 := cell_of_row _ gx 0 _ _ (0, 0) hrows.1
          have x1 := cell_of_row _ gx 1 _ _ (0, 0) hrows.1
          have x2 := cell_of_row _ gx 2 _ _ (0, 0) hrows.1
          have x3 := cell_of_row _ gx 3 _ _ (0, 0) hrows.1
          have x4 := cell_of_row _ gx 4 _ _ (0, 0) hrows.1
          have x5 := cell_of_row _ gx 5 _ _ (0, 0) hrows.1
          have x6 := cell_of_row _ gx 6 _ _ (0, 0) hrows.1
          have y0 := cell_of_row _ gy 0 _ _ (0, 0) hrows.2
          have y1 := cell_of_row _ gy 1 _ _ (0, 0) hrows.2
          have y2 := cell_of_row _ gy 2 _ _ (0, 0) hrows.2
          have y3 := cell_of_row _ gy 3 _ _ (0, 0) hrows.2
          have y4 := cell_of_row _ gy 4 _ _ (0, 0) hrows.2
          have y5 := cell_of_row _ gy 5 _ _ (0, 0) hrows.2
          have y6 := cell_of_row _ gy 6 _ _ (0, 0) hrows.2
          have HB7 := Bx.mk hk7.low
          clear hb7 hk7 hrows HK6 HE6 HO6 HI6
          go_wp2_with fail
          refine (before_any X Y _).mono ?_
          rintro e w8 ⟨rfl, hb8⟩
          have HB := Bx.mk (bstep HB7.out hb8)
          clear hb8 HB7 x0 x1 x2 x3 x4 x5 x6 y0 y1 y2 y3 y4 y5 y6
          cases hbf : befO X Y with
          | true =>
            have hE := HSW.out.1 hbf
            rw [hE]
            clear hE hbf
            go_wp2_with fail
            refine (lives17_any _).mono ?_
            rintro e wL ⟨rfl, hbL⟩
            have hfin := bstep HB.out hbL
            go_wp2_with fail
            go_ret
            exact ⟨rfl, hfin⟩
          | false =>
            have hE := HSW.out.2 hbf
            rw [hE]
            clear hE hbf
            rcases does_kinds (l := L) (f := f) (ops := O) (swp J q) Z4 with hd | hd | hd
            · rw [hd]
              clear hd
              go_wp2_with fail
              refine (lives17_any _).mono ?_
              rintro e wL ⟨rfl, hbL⟩
              have hfin := bstep HB.out hbL
              go_wp2_with fail
              go_ret
              exact ⟨rfl, hfin⟩
            · rw [hd]
              clear hd
              go_wp2_with fail
              refine (lives17_any _).mono ?_
              rintro e wL ⟨rfl, hbL⟩
              have hfin := bstep HB.out hbL
              go_wp2_with fail
              go_ret
              exact ⟨rfl, hfin⟩
            · rw [hd]
              clear hd
              go_wp2_with fail
              refine (lives17_any _).mono ?_
              rintro e wL ⟨rfl, hbL⟩
              have hfin := bstep HB.out hbL
              go_wp2_with fail
              go_ret
              exact ⟨rfl, hfin⟩
  · have hq : (ordE L f O J != 0) = true := by simpa using hr
    generalize ordE L f O J = r at hq ⊢
    clear hr
    go_wp2_with fail
    refine (lives17_any _).mono ?_
    rintro e wL ⟨rfl, hbL⟩
    have hfin := bstep HB.out hbL
    go_wp2_with fail
    go_ret
    exact ⟨rfl, hfin⟩

set_option maxRecDepth 100000 in
theorem lifted (os : Os) (started : os.Started) (H : Type) (enc : TypeId × Value → H) :
    ReturnsInHanded {} Try.checked os 6 .any (Rows.orderSwapsSpec.pre6 enc Try.prog Try.f6 Rows.orderSwapsRow.domain false) (Rows.orderSwapsSpec.post enc Try.prog Try.f6 false true false false) := by
  refine returnsInHanded_of_change (C := Try.checked) own started (by kernel_rfl) Try.func6
    (ChangeSpec.witness6 (enc := enc) (C := Try.checked) false ⟨#[], #[.slice none 0 0, .int .i64 0, .slice none 0 0, .slice none 0 0, .int .i64 0], []⟩ 8 (by kernel_rfl) (by kernel_rfl) (by kernel_rfl) (by kernel_rfl)) ?_
  intro W base args ds gs before hval0 hW hcnd _
  have hval : ∀ (j : Nat) t v, Try.f6.params[j]? = some t → args[j]? = some v → Value.okWide Try.prog W .any base t v := hval0
  have hW' := hW
  obtain ⟨p, q, hA0, hV, rfl, hfz, hnd⟩ := hW
  have hA : DataW.TrodAll enc Try.prog W 0 (fun _ => true) true Try.f6.params.toList args.toList ds p := hA0
  rw [Try.params6] at hA hval
  obtain ⟨v0, vs0, d0, ds0, p0, q0, hargs, rfl, rfl, h0, r0⟩ := trodAll_cons hA
  obtain ⟨v1, vs1, d1, ds1, p1, q1, rfl, rfl, rfl, h1, r1⟩ := trodAll_cons r0
  obtain ⟨v2, vs2, d2, ds2, p2, q2, rfl, rfl, rfl, h2, r2⟩ := trodAll_cons r1
  obtain ⟨v3, vs3, d3, ds3, p3, q3, rfl, rfl, rfl, h3, r3⟩ := trodAll_cons r2
  obtain ⟨v4, vs4, d4, ds4, p4, q4, rfl, rfl, rfl, h4, r4⟩ := trodAll_cons r3
  obtain ⟨rfl, rfl, rfl⟩ := trodAll_nil r4
  obtain rfl : args = #[v0, v1, v2, v3, v4] := by cases args; simp_all
  obtain ⟨rfl, rfl⟩ := trodVars_none hV
  obtain ⟨a0, len0, cap0, rfl⟩ := okWide_slice Try.underlying22 (hval 0 22 v0 rfl rfl)
  obtain ⟨a2, len2, cap2, rfl⟩ := okWide_slice Try.underlying23 (hval 2 23 v2 rfl rfl)
  obtain ⟨a3, len3, cap3, rfl⟩ := okWide_slice Try.underlying24 (hval 3 24 v3 rfl rfl)
  have k0 := h0
  have lt0 : ∀ x ∈ p0, x.block < W.heap.size := by obtain ⟨m, hm⟩ := k0; exact DataW.trod_lt m _ _ _ hm
  have k1 := h1
  have lt1 : ∀ x ∈ p1, x.block < W.heap.size := by obtain ⟨m, hm⟩ := k1; exact DataW.trod_lt m _ _ _ hm
  have k2 := h2
  have lt2 : ∀ x ∈ p2, x.block < W.heap.size := by obtain ⟨m, hm⟩ := k2; exact DataW.trod_lt m _ _ _ hm
  have k3 := h3
  have lt3 : ∀ x ∈ p3, x.block < W.heap.size := by obtain ⟨m, hm⟩ := k3; exact DataW.trod_lt m _ _ _ hm
  have k4 := h4
  have lt4 : ∀ x ∈ p4, x.block < W.heap.size := by obtain ⟨m, hm⟩ := k4; exact DataW.trod_lt m _ _ _ hm
  obtain ⟨l, hl⟩ := open_ics h0
  obtain ⟨fuel, rfl, hfuel⟩ := open_i64 (hval 1 3 v1 rfl rfl) h1
  obtain ⟨ops, hops⟩ := open_ors h2
  obtain ⟨o, ho⟩ := open_ivs h3
  obtain ⟨xat, rfl, hxat⟩ := open_i64 (hval 4 3 v4 rfl rfl) h4
  clear hA0 hval0
  refine (walk a0 len0 cap0 l fuel a2 len2 cap2 ops a3 len3 cap3 o xat W hl hfuel hops ho hxat).mono fun e W' ⟨he, bel⟩ => ?_
  subst he
  exact ⟨_, rfl, _, _, _, [], _, [], hW', trodAll_mk1 (shut_bool Try.underlying4 _), (trodAll_cons_mk (Below.trod laidOut (by kernel_rfl) (of_decide_eq_true (by kernel_rfl)) k0 bel lt0) (trodAll_cons_mk (Below.trod laidOut (by kernel_rfl) (of_decide_eq_true (by kernel_rfl)) k1 bel lt1) (trodAll_cons_mk (Below.trod laidOut (by kernel_rfl) (of_decide_eq_true (by kernel_rfl)) k2 bel lt2) (trodAll_cons_mk (Below.trod laidOut (by kernel_rfl) (of_decide_eq_true (by kernel_rfl)) k3 bel lt3) (trodAll_cons_mk (Below.trod laidOut (by kernel_rfl) (of_decide_eq_true (by kernel_rfl)) k4 bel lt4) trodAll_mk0))))), rfl, bel.frame _, fun h => by cases h⟩

theorem over : Rows.orderSwapsRow.holds Try.pinned (OpenSpec.ofChange Rows.orderSwapsSpec) :=
  OpenClaim.holds_of_wide 6 Try.f6 rfl rfl rfl rfl rfl rfl rfl ⟨rfl, rfl, rfl, rfl, rfl⟩ rfl rfl rfl rfl rfl (by kernel_rfl) Try.func6 (by kernel_rfl)
    (of_decide_eq_true (by kernel_rfl)) (by unfold Func.isWrapper; first | (rw [if_pos (by decide +kernel)]; kernel_rfl) | (rw [if_neg (by decide +kernel)]; exact ⟨rfl, rfl⟩))
    (fun os started H enc _ => lifted os started H enc)

/-- the statement -/
theorem proved : Rows.OrderSwapsSaid := over
end Go.Proofs.Ytckgplemdmgekaa.orderSwaps
namespace Go.Proofs.Ytckgplemdmgekaa
theorem orderSwaps_holds : Rows.OrderSwapsSaid := orderSwaps.proved
#print axioms orderSwaps_holds
end Go.Proofs.Ytckgplemdmgekaa
