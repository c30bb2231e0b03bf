/- OrderMeans: what it is to be an order: all that are done stand there once, none ahead of one that was over when it began. -/
import Derived.Test.YtckgplemdmgekaaRows
import Derived.Test.YtckgplemdmgekaaOrIn
import Derived.Test.YtckgplemdmgekaaOLaw
import Derived.WalkKit
import Derived.ProofKit
import Derived.OpenShut
import Derived.ShutString
import Derived.ChangeOld
import Derived.Below
namespace Go.Proofs.Ytckgplemdmgekaa.orderMeans
open Go.ChangeShapes Go.WideShapes Go.ChangeAt Go.RowKit
open Go.ChangeMaps (open_string shut_string)
set_option linter.unusedVariables false

theorem own : ownKnob Try.prog.godebug = none := by kernel_rfl
theorem laidOut : laidOutB Try.prog = true := by kernel_rfl


set_option maxRecDepth 100000 in
set_option maxHeartbeats 8000000 in
theorem walk (a0 : Option Addr) (len0 cap0 : Nat) (l : List Ic) (fuel : Int) (a2 : Option Addr) (len2 cap2 : Nat) (ops : List Opr) (a3 : Option Addr) (len3 cap3 : Nat) (o : List Int) (w : World) (hl : IcsI w a0 len0 cap0 l) (hfuel : I64 fuel) (hops : OrsI w a2 len2 cap2 ops) (ho : IvsI w a3 len3 cap3 o) :
    Calls Try.prog 4 #[.slice a0 len0 cap0, .int .i64 fuel, .slice a2 len2 cap2, .slice a3 len3 cap3] w fun e w' => e = .returned (.bool true) ∧ Below w.heap.size w w' := by
  obtain ⟨i0, hi0, hz0, hz1, hz2⟩ := info_parts Try.infoI17
  have HINF := Bx.mk (And.intro hi0 (And.intro hz0 (And.intro hz1 hz2)))
  clear hi0 hz0 hz1 hz2
  have HL := Bx.mk hl.1
  have HLK := Bx.mk hl.2
  have HOP := Bx.mk hops.1
  have HOPK := Bx.mk hops.2
  have HIO := Bx.mk ho.1
  clear hl hops ho
  go_enter Try.func4, Try.ntmps4
  go_wp2_with fail
  refine (few15_any a0 len0 cap0 l _ HL.out).mono ?_
  rintro e w1 ⟨v1, rfl, ho1, hb1⟩
  obtain ⟨L, HLL⟩ : ∃ L, Bx (l.take 210 = L) := ⟨_, ⟨rfl⟩⟩
  have HLK1 : Bx (IcsK L) := ⟨by rw [← HLL.out]; exact HLK.out.take 210⟩
  have HLN : Bx (L.length ≤ 210) := ⟨by rw [← HLL.out, List.length_take]; omega⟩
  rw [HLL.out] at ho1
  obtain ⟨aL, cL, rfl, hE1⟩ := Ls.of_owns icC_len ho1 rfl
  have HE1 := Bx.mk hE1
  have HB1 := Bx.mk hb1
  have HOP1 := Bx.mk (HOP.out.below hb1)
  have HIO1 := Bx.mk (HIO.out.below hb1)
  clear ho1 hE1 hb1 HL HLK HLL HOP HIO
  go_wp2_with fail
  refine (few17_any a2 len2 cap2 64 ops _ HOP1.out (by decide) (by decide)).mono ?_
  rintro e w2 ⟨v2, rfl, ho2, hb2⟩
  obtain ⟨O, HOO⟩ : ∃ O, Bx (ops.take 64 = O) := ⟨_, ⟨rfl⟩⟩
  have HOK1 : Bx (OrsK O) := ⟨by rw [← HOO.out]; exact HOPK.out.take 64⟩
  have HON : Bx (O.length ≤ 64) := ⟨by rw [← HOO.out, List.length_take]; omega⟩
  rw [HOO.out] at ho2
  obtain ⟨aO, cO, rfl, hE2⟩ := Ls.of_owns orC_len ho2 rfl
  have HO2 := Bx.mk hE2
  have HE2 := Bx.mk (HE1.out.below hb2)
  have HB2 := Bx.mk (bstep HB1.out hb2)
  have HIO2 := Bx.mk (HIO1.out.below hb2)
  clear ho2 hE2 hb2 HE1 HB1 HOP1 HIO1 HOPK HOO
  go_wp2_with fail
  refine (ints17_any a3 len3 cap3 64 o _ HIO2.out (by decide) (by decide)).mono ?_
  rintro e w3 ⟨v3, rfl, ho3, hb3⟩
  obtain ⟨J, HJJ⟩ : ∃ J, Bx (o.take 64 = J) := ⟨_, ⟨rfl⟩⟩
  have HJN : Bx (J.length ≤ 64) := ⟨by rw [← HJJ.out, List.length_take]; omega⟩
  rw [HJJ.out] at ho3
  have HOW3 := Bx.mk ho3
  obtain ⟨aJ, cJ, rfl, hE3⟩ := Ls.of_owns ivC_len ho3 rfl
  have HI3 := Bx.mk hE3
  have HE3 := Bx.mk (HE2.out.below hb3)
  have HO3 := Bx.mk (HO2.out.below hb3)
  have HB3 := Bx.mk (bstep HB2.out hb3)
  skip
  clear ho3 hE3 hb3 HE2 HO2 HB2 HIO2 HJJ
  go_wp2_with fail
  refine (least_any fuel 0 500 _).mono ?_
  rintro e wq ⟨rfl, hw⟩
  subst hw
  have hfb := least_bd fuel 0 500 (by decide)
  generalize leastV fuel 0 500 = f at hfb ⊢
  have HVF : Bx (V64 f) := ⟨by unfold V64; omega⟩
  clear hfb
  go_wp2_with fail
  refine (check17_any _ _ _ _ _ _ _ _ _ L f O J _ HE3.out HLK1.out HVF.out HO3.out HOK1.out HI3.out).mono ?_
  rintro e w4 ⟨rfl, hb4⟩
  have HO4 := Bx.mk (HO3.out.below hb4)
  have HI4 := Bx.mk (HI3.out.below hb4)
  have HB := Bx.mk (bstep HB3.out hb4)
  clear hb4 HE3 HO3 HI3 HB3 HOW3 HLK1 HLN
  by_cases hr : ordE L f O J = 0
  · have HORD := Bx.mk (ordE_ok.1 hr)
    rw [hr]
    clear hr
    obtain ⟨n, HN⟩ : ∃ n, Bx (O.length = n) := ⟨_, ⟨rfl⟩⟩
    obtain ⟨m, HM⟩ : ∃ m, Bx (J.length = m) := ⟨_, ⟨rfl⟩⟩
    rw [HN.out] at HO4 HON ⊢
    rw [HM.out] at HI4 HJN ⊢
    have hn := HON.out
    have hm := HJN.out
    have hi0 := HINF.out.1
    have hz0 := HINF.out.2.1
    have hz1 := HINF.out.2.2.1
    have hz2 := HINF.out.2.2.2
    have HPL : Bx (PlN O.length J) := ⟨pln_of HORD.out.pl⟩
    go_wp2_with (refine wpList_make_full _ rfl _ _ 24 rfl w4.heap.size 3 i0 (.int .i64 0) 1 Try.underlying24 hi0 hz0 hz1 .i64 .i64 n n n rfl rfl rfl rfl (by rw [hz2]; omega) (by unfold maxLen; omega) (Nat.le_refl _) (fun w' h1 h2 => ?_))
    rw [mk_ints] at h1
    have hb5 : Below w4.heap.size w4 w' := (Below.refl _ _).grown h2 (Nat.le_refl _) (by intro k hk; cases hk)
    obtain ⟨gS, HGE⟩ : ∃ gS, Bx (gS = w4.heap.size) := ⟨_, ⟨rfl⟩⟩
    rw [← HGE.out] at h1 ⊢
    have HGS : Bx (w4.heap.size ≤ gS) := ⟨by rw [HGE.out]; exact Nat.le_refl _⟩
    have HS0 : Bx (w'.ownsRow w4.heap.size 3 1 (.slice (some ⟨gS, 0, none⟩) n n) n (ctC n (fun j => plA J 0 j))) := ⟨by rw [HGE.out]; rw [HGE.out] at h1; exact h1⟩
    have HB5 := Bx.mk hb5
    clear h1 h2 hb5 HGE hi0 hz0 hz1 hz2
    go_loopw [10] (fun i wr => ∃ k : Nat, k ≤ m ∧ i = .int .i64 k ∧ Bx (wr.ownsRow w4.heap.size 3 1 (.slice (some ⟨gS, 0, none⟩) n n) n (ctC n (fun j => plA J k j))) ∧ Bx (Below w4.heap.size w4 wr)) (fun i _ => m - (intOf i).toNat)
    case atStart => exact ⟨0, Nat.zero_le _, rfl, HS0, HB5⟩
    case round =>
      clear HS0 HB5
      obtain ⟨k, hk, rfl, HS, HBW⟩ := hrel
      by_cases hlt : k < m
      · have hkI : (k : Int) < (m : Int) := by omega
        have HKL : Bx (k < J.length) := ⟨by rw [HM.out]; exact hlt⟩
        obtain ⟨b1, o1, rfl, _, x0⟩ := (HI4.out.below HBW.out).iv k hlt 0
        obtain ⟨p, hpe, hpl⟩ := HPL.out.nat HKL.out
        have hpn : p < n := by rw [← HN.out]; exact hpl
        have hpI : ¬ (n : Int) ≤ (p : Int) := by omega
        have hpJ : (p : Int) < (n : Int) := by omega
        have hpd : decide (n ≤ p) = false := by simp; omega
        rw [hpe] at x0
        have s0 := HS.out.cellAt p (by omega)
        rw [ctC_get n _ p hpn, plA_new HORD.out.pl HKL.out hpe] at s0
        have s1 := HS.out.frozenAt p
        have HST : Bx ((wr.setCell ⟨gS, p, none⟩ (.int .i64 ((k : Int) + 1))).ownsRow w4.heap.size 3 1 (.slice (some ⟨gS, 0, none⟩) n n) n (ctC n (fun j => plA J (k + 1) j))) := ⟨by
          have h1 := (HS.out.stored p (.int .i64 ((k : Int) + 1))).1
          rw [ctC_set n _ (fun j => plA J (k + 1) j) p hpn _ (by show _ = ((plA J (k + 1) p : Nat) : Int); unfold plA; rw [if_pos hpe]; push_cast; rfl) (fun j _ hne => by show plA J (k + 1) j = plA J k j; conv => lhs; unfold plA; rw [if_neg (by rw [hpe]; omega)])] at h1
          exact h1⟩
        have HBT : Bx (Below w4.heap.size w4 (wr.setCell ⟨gS, p, none⟩ (.int .i64 ((k : Int) + 1)))) := ⟨HBW.out.setCell (p := ⟨gS, p, none⟩) HGS.out _⟩
        clear hpe hpl HS HBW
        go_wp2_with fail
        go_roundw
        case rel => exact ⟨k + 1, by omega, by go_num, HST, HBT⟩
        case measure => simp [intOf]; omega
      · have hkI : ¬ (k : Int) < (m : Int) := by omega
        obtain rfl : k = m := by omega
        obtain ⟨w5, hw5⟩ : ∃ w5, w5 = wr := ⟨_, rfl⟩
        subst hw5
        have HS1 : Bx (∀ j, j < n → w5.cell? ⟨gS, j, none⟩ = some (.int .i64 (plA J J.length j : Nat))) := ⟨fun j hj => by
          rw [HS.out.cellAt j (by omega), ctC_get n _ j hj, HM.out]⟩
        have HSB : Bx (gS < w5.heap.size) := ⟨(HS.out.lt gS rfl).2⟩
        have HO5 := Bx.mk (HO4.out.below HBW.out)
        have HB5 := Bx.mk (bstep HB.out HBW.out)
        clear HS HBW HO4 HB HI4
        go_wp2_with fail
        go_loopw [11] (fun i wr => ∃ k : Nat, k ≤ n ∧ i = .int .i64 k ∧ Bx (Below w5.heap.size w5 wr)) (fun i _ => n - (intOf i).toNat)
        case atStart => exact ⟨0, Nat.zero_le _, rfl, ⟨Below.refl _ _⟩⟩
        case round =>
          obtain ⟨i, hin, rfl, HBI⟩ := hrel
          by_cases hli : i < n
          · have hiI : (i : Int) < (n : Int) := by omega
            have HIL : Bx (i < O.length) := ⟨by rw [HN.out]; exact hli⟩
            obtain ⟨b2, o2, rfl, _, _⟩ := HO5.out.spot (by omega)
            obtain ⟨X, HXE⟩ : ∃ X, Bx (O.getD i op0 = X) := ⟨_, ⟨rfl⟩⟩
            obtain ⟨_, _, _, x3, _, _, x6⟩ := or_cells (HO5.out.below HBI.out) i hli HXE.out
            have s0 : wr.cell? ⟨gS, i, none⟩ = _ := (World.cell?_of_block (a := ⟨gS, i, none⟩) (HBI.out.block gS HSB.out)).trans (HS1.out i hli)
            have HDN : Bx (X.d = true → 0 < plA J J.length i) := ⟨fun h => plA_done HORD.out.all HIL.out (by rw [HXE.out]; exact h)⟩
            obtain ⟨pi, HPI⟩ : ∃ pi : Int, Bx (((plA J J.length i : Nat) : Int) = pi) := ⟨_, ⟨rfl⟩⟩
            rw [HPI.out] at s0
            have hgd : X.d = false ∨ (X.d = true ∧ (pi == 0) = false) := by
              cases hd : X.d with
              | false => exact .inl rfl
              | true => exact .inr ⟨rfl, beq_false_of_ne (by have := HDN.out hd; have := HPI.out; omega)⟩
            have HWI : Bx (Below w5.heap.size w5 wr) := HBI
            rcases hgd with hd | ⟨hd, hp0⟩
            · rw [hd] at x3
              have HXD := Bx.mk hd
              clear hd
              go_wp2_with fail
              go_loopw [12] (fun i wr => ∃ q : Nat, q ≤ n ∧ i = .int .i64 q ∧ Bx (Below w5.heap.size w5 wr)) (fun i _ => n - (intOf i).toNat)
              case atStart => exact ⟨0, Nat.zero_le _, rfl, HWI⟩
              case round =>
                clear HWI HBI s0 x3 x6
                obtain ⟨q, hqn, rfl, HBQ⟩ := hrel
                by_cases hlq : q < n
                · have hqI : (q : Int) < (n : Int) := by omega
                  obtain ⟨Y, HYE⟩ : ∃ Y, Bx (O.getD q op0 = Y) := ⟨_, ⟨rfl⟩⟩
                  obtain ⟨_, _, _, x3, _, _, x6⟩ := or_cells (HO5.out.below HBQ.out) i hli HXE.out
                  obtain ⟨_, _, _, _, _, y5, _⟩ := or_cells (HO5.out.below HBQ.out) q hlq HYE.out
                  have s0 : wr.cell? ⟨gS, i, none⟩ = _ := (World.cell?_of_block (a := ⟨gS, i, none⟩) (HBQ.out.block gS HSB.out)).trans (HS1.out i hli)
                  have t0 : wr.cell? ⟨gS, q, none⟩ = _ := (World.cell?_of_block (a := ⟨gS, q, none⟩) (HBQ.out.block gS HSB.out)).trans (HS1.out q hlq)
                  have HTM : Bx (0 < plA J J.length i → 0 < plA J J.length q → befO X Y = true → plA J J.length i ≤ plA J J.length q) := ⟨fun h1 h2 h3 => plA_time HORD.out.time h1 h2 (by rw [HXE.out, HYE.out]; exact h3)⟩
                  obtain ⟨pq, HPQ⟩ : ∃ pq : Int, Bx (((plA J J.length q : Nat) : Int) = pq) := ⟨_, ⟨rfl⟩⟩
                  rw [HPI.out] at s0
                  rw [HPQ.out] at t0
                  rw [HXD.out] at x3
                  by_cases h1 : 0 < pi
                  · have g1 : decide (0 < pi) = true := decide_eq_true h1
                    clear h1
                    by_cases h2 : 0 < pq
                    · have g2 : decide (0 < pq) = true := decide_eq_true h2
                      clear h2
                      go_wp2_with fail
                      go_quiet (fail)
                      go_wp2_with fail
                      go_roundw
                      case rel => exact ⟨q + 1, by omega, by go_num, ⟨below_drewN HBQ.out _⟩⟩
                      case measure => simp [intOf]; omega
                    · have g2 : decide (0 < pq) = false := decide_eq_false h2
                      clear h2
                      go_wp2_with fail
                      go_quiet (fail)
                      go_wp2_with fail
                      go_roundw
                      case rel => exact ⟨q + 1, by omega, by go_num, ⟨below_drewN HBQ.out _⟩⟩
                      case measure => simp [intOf]; omega
                  · have g1 : decide (0 < pi) = false := decide_eq_false h1
                    clear h1
                    go_wp2_with fail
                    go_quiet (fail)
                    go_wp2_with fail
                    go_roundw
                    case rel => exact ⟨q + 1, by omega, by go_num, ⟨below_drewN HBQ.out _⟩⟩
                    case measure => simp [intOf]; omega
                · have hqI : ¬ (q : Int) < (n : Int) := by omega
                  go_wp2_with fail
                  go_roundw
                  case rel => exact ⟨i + 1, by omega, by go_num, HBQ⟩
                  case measure => simp [intOf]; omega
            · rw [hd] at x3
              have HXD := Bx.mk hd
              have HPP : Bx (decide (0 < pi) = true) := ⟨decide_eq_true (by have := HDN.out hd; have := HPI.out; omega)⟩
              clear hd
              go_wp2_with fail
              go_loopw [12] (fun i wr => ∃ q : Nat, q ≤ n ∧ i = .int .i64 q ∧ Bx (Below w5.heap.size w5 wr)) (fun i _ => n - (intOf i).toNat)
              case atStart => exact ⟨0, Nat.zero_le _, rfl, HWI⟩
              case round =>
                clear HWI HBI s0 x3 x6
                obtain ⟨q, hqn, rfl, HBQ⟩ := hrel
                by_cases hlq : q < n
                · have hqI : (q : Int) < (n : Int) := by omega
                  obtain ⟨Y, HYE⟩ : ∃ Y, Bx (O.getD q op0 = Y) := ⟨_, ⟨rfl⟩⟩
                  obtain ⟨_, _, _, x3, _, _, x6⟩ := or_cells (HO5.out.below HBQ.out) i hli HXE.out
                  obtain ⟨_, _, _, _, _, y5, _⟩ := or_cells (HO5.out.below HBQ.out) q hlq HYE.out
                  have s0 : wr.cell? ⟨gS, i, none⟩ = _ := (World.cell?_of_block (a := ⟨gS, i, none⟩) (HBQ.out.block gS HSB.out)).trans (HS1.out i hli)
                  have t0 : wr.cell? ⟨gS, q, none⟩ = _ := (World.cell?_of_block (a := ⟨gS, q, none⟩) (HBQ.out.block gS HSB.out)).trans (HS1.out q hlq)
                  have HTM : Bx (0 < plA J J.length i → 0 < plA J J.length q → befO X Y = true → plA J J.length i ≤ plA J J.length q) := ⟨fun h1 h2 h3 => plA_time HORD.out.time h1 h2 (by rw [HXE.out, HYE.out]; exact h3)⟩
                  obtain ⟨pq, HPQ⟩ : ∃ pq : Int, Bx (((plA J J.length q : Nat) : Int) = pq) := ⟨_, ⟨rfl⟩⟩
                  rw [HPI.out] at s0
                  rw [HPQ.out] at t0
                  rw [HXD.out] at x3
                  have g1 := HPP.out
                  by_cases h2 : 0 < pq
                  · have g2 : decide (0 < pq) = true := decide_eq_true h2
                    by_cases h3 : X.t < Y.f
                    · have g3 : decide (X.t < Y.f) = true := decide_eq_true h3
                      have g4 : decide (pq < pi) = false := decide_eq_false (by
                        have e1 := HPI.out
                        have e2 := HPQ.out
                        have e3 : 0 < pi := of_decide_eq_true g1
                        have := HTM.out (by omega) (by omega) (befO_yes HXD.out h3)
                        omega)
                      clear h2 h3
                      generalize X.t = xt at x6 g3
                      generalize Y.f = yf at y5 g3
                      go_wp2_with fail
                      go_quiet (fail)
                      go_wp2_with fail
                      go_roundw
                      case rel => exact ⟨q + 1, by omega, by go_num, ⟨below_drewN HBQ.out _⟩⟩
                      case measure => simp [intOf]; omega
                    · have g3 : decide (X.t < Y.f) = false := decide_eq_false h3
                      clear h2 h3
                      generalize X.t = xt at x6 g3
                      generalize Y.f = yf at y5 g3
                      go_wp2_with fail
                      go_quiet (fail)
                      go_wp2_with fail
                      go_roundw
                      case rel => exact ⟨q + 1, by omega, by go_num, ⟨below_drewN HBQ.out _⟩⟩
                      case measure => simp [intOf]; omega
                  · have g2 : decide (0 < pq) = false := decide_eq_false h2
                    clear h2
                    go_wp2_with fail
                    go_quiet (fail)
                    go_wp2_with fail
                    go_roundw
                    case rel => exact ⟨q + 1, by omega, by go_num, ⟨below_drewN HBQ.out _⟩⟩
                    case measure => simp [intOf]; omega
                · have hqI : ¬ (q : Int) < (n : Int) := by omega
                  go_wp2_with fail
                  go_roundw
                  case rel => exact ⟨i + 1, by omega, by go_num, HBQ⟩
                  case measure => simp [intOf]; omega
          · have hiI : ¬ (i : Int) < (n : Int) := by omega
            have HB : Bx (Below w.heap.size w wr) := ⟨bstep HB5.out HBI.out⟩
            go_wp2_with fail
            refine (lives17_any _).mono ?_
            rintro e wL ⟨rfl, hbL⟩
            have hfin := bstep HB.out hbL
            go_wp2_with fail
            go_ret
            exact ⟨rfl, hfin⟩
  · have hq : (ordE L f O J != 0) = true := by simpa using hr
    generalize ordE L f O J = r at hq ⊢
    clear hr
    go_wp2_with fail
    refine (lives17_any _).mono ?_
    rintro e wL ⟨rfl, hbL⟩
    have hfin := bstep HB.out hbL
    go_wp2_with fail
    go_ret
    exact ⟨rfl, hfin⟩

set_option maxRecDepth 100000 in
theorem lifted (os : Os) (started : os.Started) (H : Type) (enc : TypeId × Value → H) :
    ReturnsInHanded {} Try.checked os 4 .any (Rows.orderMeansSpec.pre6 enc Try.prog Try.f4 Rows.orderMeansRow.domain false) (Rows.orderMeansSpec.post enc Try.prog Try.f4 false true false false) := by
  refine returnsInHanded_of_change (C := Try.checked) own started (by kernel_rfl) Try.func4
    (ChangeSpec.witness6 (enc := enc) (C := Try.checked) false ⟨#[], #[.slice none 0 0, .int .i64 0, .slice none 0 0, .slice none 0 0], []⟩ 8 (by kernel_rfl) (by kernel_rfl) (by kernel_rfl) (by kernel_rfl)) ?_
  intro W base args ds gs before hval0 hW hcnd _
  have hval : ∀ (j : Nat) t v, Try.f4.params[j]? = some t → args[j]? = some v → Value.okWide Try.prog W .any base t v := hval0
  have hW' := hW
  obtain ⟨p, q, hA0, hV, rfl, hfz, hnd⟩ := hW
  have hA : DataW.TrodAll enc Try.prog W 0 (fun _ => true) true Try.f4.params.toList args.toList ds p := hA0
  rw [Try.params4] at hA hval
  obtain ⟨v0, vs0, d0, ds0, p0, q0, hargs, rfl, rfl, h0, r0⟩ := trodAll_cons hA
  obtain ⟨v1, vs1, d1, ds1, p1, q1, rfl, rfl, rfl, h1, r1⟩ := trodAll_cons r0
  obtain ⟨v2, vs2, d2, ds2, p2, q2, rfl, rfl, rfl, h2, r2⟩ := trodAll_cons r1
  obtain ⟨v3, vs3, d3, ds3, p3, q3, rfl, rfl, rfl, h3, r3⟩ := trodAll_cons r2
  obtain ⟨rfl, rfl, rfl⟩ := trodAll_nil r3
  obtain rfl : args = #[v0, v1, v2, v3] := by cases args; simp_all
  obtain ⟨rfl, rfl⟩ := trodVars_none hV
  obtain ⟨a0, len0, cap0, rfl⟩ := okWide_slice Try.underlying22 (hval 0 22 v0 rfl rfl)
  obtain ⟨a2, len2, cap2, rfl⟩ := okWide_slice Try.underlying23 (hval 2 23 v2 rfl rfl)
  obtain ⟨a3, len3, cap3, rfl⟩ := okWide_slice Try.underlying24 (hval 3 24 v3 rfl rfl)
  have k0 := h0
  have lt0 : ∀ x ∈ p0, x.block < W.heap.size := by obtain ⟨m, hm⟩ := k0; exact DataW.trod_lt m _ _ _ hm
  have k1 := h1
  have lt1 : ∀ x ∈ p1, x.block < W.heap.size := by obtain ⟨m, hm⟩ := k1; exact DataW.trod_lt m _ _ _ hm
  have k2 := h2
  have lt2 : ∀ x ∈ p2, x.block < W.heap.size := by obtain ⟨m, hm⟩ := k2; exact DataW.trod_lt m _ _ _ hm
  have k3 := h3
  have lt3 : ∀ x ∈ p3, x.block < W.heap.size := by obtain ⟨m, hm⟩ := k3; exact DataW.trod_lt m _ _ _ hm
  obtain ⟨l, hl⟩ := open_ics h0
  obtain ⟨fuel, rfl, hfuel⟩ := open_i64 (hval 1 3 v1 rfl rfl) h1
  obtain ⟨ops, hops⟩ := open_ors h2
  obtain ⟨o, ho⟩ := open_ivs h3
  clear hA0 hval0
  refine (walk a0 len0 cap0 l fuel a2 len2 cap2 ops a3 len3 cap3 o W hl hfuel hops ho).mono fun e W' ⟨he, bel⟩ => ?_
  subst he
  exact ⟨_, rfl, _, _, _, [], _, [], hW', trodAll_mk1 (shut_bool Try.underlying4 _), (trodAll_cons_mk (Below.trod laidOut (by kernel_rfl) (of_decide_eq_true (by kernel_rfl)) k0 bel lt0) (trodAll_cons_mk (Below.trod laidOut (by kernel_rfl) (of_decide_eq_true (by kernel_rfl)) k1 bel lt1) (trodAll_cons_mk (Below.trod laidOut (by kernel_rfl) (of_decide_eq_true (by kernel_rfl)) k2 bel lt2) (trodAll_cons_mk (Below.trod laidOut (by kernel_rfl) (of_decide_eq_true (by kernel_rfl)) k3 bel lt3) trodAll_mk0)))), rfl, bel.frame _, fun h => by cases h⟩

theorem over : Rows.orderMeansRow.holds Try.pinned (OpenSpec.ofChange Rows.orderMeansSpec) :=
  OpenClaim.holds_of_wide 4 Try.f4 rfl rfl rfl rfl rfl rfl rfl ⟨rfl, rfl, rfl, rfl, rfl⟩ rfl rfl rfl rfl rfl (by kernel_rfl) Try.func4 (by kernel_rfl)
    (of_decide_eq_true (by kernel_rfl)) (by unfold Func.isWrapper; first | (rw [if_pos (by decide +kernel)]; kernel_rfl) | (rw [if_neg (by decide +kernel)]; exact ⟨rfl, rfl⟩))
    (fun os started H enc _ => lifted os started H enc)

/-- the statement -/
theorem proved : Rows.OrderMeansSaid := over
end Go.Proofs.Ytckgplemdmgekaa.orderMeans
namespace Go.Proofs.Ytckgplemdmgekaa
theorem orderMeans_holds : Rows.OrderMeansSaid := orderMeans.proved
#print axioms orderMeans_holds
end Go.Proofs.Ytckgplemdmgekaa
