/- HistWhole: each event belongs to one operation, as it stands there; operations of one client do not lie over one another. -/
import Derived.Test.YtbapegdmpipllaaRows
import Derived.Test.YtbapegdmpipllaaEvIn
import Derived.Test.YtbapegdmpipllaaHLives
import Derived.Test.YtbapegdmpipllaaHWhole
import Derived.WalkKit
import Derived.ProofKit
import Derived.OpenShut
import Derived.ShutString
import Derived.ChangeOld
import Derived.Below
namespace Go.Proofs.Ytbapegdmpipllaa.histWhole
open Go.ChangeShapes Go.WideShapes Go.ChangeAt Go.RowKit
open Go.ChangeMaps (open_string shut_string)
set_option linter.unusedVariables false

theorem own : ownKnob Try.prog.godebug = none := by kernel_rfl
theorem laidOut : laidOutB Try.prog = true := by kernel_rfl


set_option maxRecDepth 100000 in
set_option maxHeartbeats 8000000 in
theorem walk (a0 : Option Addr) (len0 cap0 : Nat) (l : List Ev) (w : World) (hl : EvsI w a0 len0 cap0 l) :
    Calls Try.prog 7 #[.slice a0 len0 cap0] w fun e w' => e = .returned (.bool true) ∧ Below w.heap.size w w' := by
  have HL := Bx.mk hl.1
  clear hl
  obtain ⟨i0, hi0, hz0, hz1, hz2⟩ := info_parts Try.infoI
  go_enter Try.func7, Try.ntmps7
  go_wp2_with fail
  refine (few14_any a0 len0 cap0 128 l _ HL.out (by decide) (by decide)).mono ?_
  rintro e w1 ⟨v1, rfl, ho1, hb1⟩
  obtain ⟨L, HLL⟩ : ∃ L, Bx (l.take 128 = L) := ⟨_, ⟨rfl⟩⟩
  rw [HLL.out] at ho1
  have hL128 : L.length ≤ 128 := by rw [← HLL.out, List.length_take]; omega
  obtain ⟨a2, c2, rfl, hE1⟩ := Ls.of_owns evC_len ho1 rfl
  have HE1 := Bx.mk hE1
  have HB1 := Bx.mk hb1
  clear ho1 hE1 hb1
  go_wp2_with fail
  refine (ops_any a2 L.length c2 L _ HE1.out).mono ?_
  rintro e w3 ⟨v3, rfl, ho3, hb3⟩
  obtain ⟨a3, c3, rfl, hO3⟩ := Ls.of_owns orC_len ho3 rfl
  have HO3 := Bx.mk hO3
  have HE3 := Bx.mk (HE1.out.below hb3)
  have HB3 := Bx.mk (bstep HB1.out hb3)
  clear ho3 hO3 hb3 HE1 HB1
  by_cases hok : (chk L).2 = 0
  · have HINV := Bx.mk (ops_all (l := L) hok)
    have HO64 : Bx ((opsL L).length ≤ 64) := ⟨by rw [ops_len]; have := cOf_le L hok L.length (Nat.le_refl _); rwa [List.take_length] at this⟩
    rw [opV_ok hok] at HO3 ⊢
    rw [hok]
    generalize opsL L = O at HINV HO3 HO64 ⊢
    obtain ⟨n, HNL⟩ : ∃ n, Bx (L.length = n) := ⟨_, ⟨rfl⟩⟩
    rw [HNL.out] at HINV HE3 hL128 ⊢
    have hO64 := HO64.out
    have HSB : Bx (∀ i : Nat, ∀ j : Nat, j < n → sn (O.take i) j ≤ 1) := ⟨fun i j hj => by have h1 := sn_le O i j; have h2 := HINV.out.one j hj; omega⟩
    clear hok HO64
    go_wp2_with (refine wpList_make_full _ rfl _ _ 51 rfl w3.heap.size 3 i0 (.int .i64 0) 1 Try.underlying51 hi0 hz0 hz1 .i64 .i64 n n n rfl rfl rfl rfl (by rw [hz2]; omega) (by unfold maxLen; omega) (Nat.le_refl _) (fun w' h1 h2 => ?_))
    rw [mk_ints] at h1
    have hb4 : Below w3.heap.size w3 w' := (Below.refl _ _).grown h2 (Nat.le_refl _) (by intro k hk; cases hk)
    obtain ⟨gS, HGE⟩ : ∃ gS, Bx (gS = w3.heap.size) := ⟨_, ⟨rfl⟩⟩
    rw [← HGE.out] at h1 ⊢
    have HGS : Bx (w3.heap.size ≤ gS) := ⟨by rw [HGE.out]; exact Nat.le_refl _⟩
    have HS4 : Bx (w'.ownsRow w3.heap.size 3 1 (.slice (some ⟨gS, 0, none⟩) n n) n (ctC n (fun j => sn (O.take 0) j))) := ⟨by rw [HGE.out]; rw [HGE.out] at h1; exact h1⟩
    have HB4 := Bx.mk hb4
    clear h1 h2 hb4 HGE
    go_loopw [6] (fun i wr => ∃ k : Nat, k ≤ O.length ∧ i = .int .i64 k ∧ Bx (wr.ownsRow w3.heap.size 3 1 (.slice (some ⟨gS, 0, none⟩) n n) n (ctC n (fun j => sn (O.take k) j))) ∧ Bx (Below w3.heap.size w3 wr)) (fun i _ => O.length - (intOf i).toNat)
    case atStart => exact ⟨0, Nat.zero_le _, rfl, HS4, HB4⟩
    case round =>
      clear HS4 HB4
      obtain ⟨i, hiO, rfl, HS, HBW⟩ := hrel
      replace HSB := Bx.mk (HSB.out i)
      by_cases hlt : i < O.length
      · have hkI : (i : Int) < ((O.length : Nat) : Int) := by omega
        obtain ⟨b, off, rfl, hbl, m0, m1, m2, m3, m4, m5, m6⟩ := (HO3.out.below HBW.out).or i hlt
        obtain ⟨fN, hfe, hfn, hgf⟩ := HINV.out.frm _ (get_mem hlt)
        obtain ⟨b2, off2, rfl, hbl2, y0, y1, y2, y3⟩ := (HE3.out.below HBW.out).ev fN hfn
        rw [hgf] at y0 y1 y2 y3
        have HPR : Bx (0 < i → ∀ pf : Nat, (O.getD (i - 1) op0).f = (pf : Int) → pf < fN) := ⟨fun hi pf e => by have := pair_get HINV.out.inc (show i - 1 < i by omega) hlt; rw [e, hfe] at this; omega⟩
        have HPF : Bx (0 < i → ∃ pf : Nat, (O.getD (i - 1) op0).f = (pf : Int)) := ⟨fun hi => by obtain ⟨j, h1, _⟩ := HINV.out.frm _ (get_mem (show i - 1 < O.length by omega)); exact ⟨j, h1⟩⟩
        have HDN := Bx.mk (HINV.out.don _ (get_mem hlt))
        have HOP := Bx.mk (HINV.out.opn _ (get_mem hlt))
        have HSN : Bx (∀ j : Nat, sn (O.take (i + 1)) j = sn (O.take i) j + ((if (O.getD i op0).f = (j : Int) then 1 else 0) + (if (O.getD i op0).d = true ∧ (O.getD i op0).t = (j : Int) then 1 else 0))) := ⟨fun j => sn_snoc O i hlt j⟩
        have HGF := Bx.mk hgf
        clear hgf
        generalize O.getD i op0 = q at m0 m1 m2 m3 m4 m5 m6 hfe y0 y1 y2 y3 HDN HOP HSN HGF
        obtain ⟨qc, qo, qa, qd, qr, qf, qt⟩ := q
        simp only at m0 m1 m2 m3 m4 m5 m6 hfe y0 y1 y2 y3
        subst hfe
        obtain ⟨g7, HG7⟩ : ∃ g7, Bx (g7 = wr.heap.size) := ⟨_, ⟨rfl⟩⟩
        have hba : Below wr.heap.size wr (wr.alloc (.cells #[.int .i64 qc, .int .i64 qo, .int .i64 qa, .bool qd, .int .i64 qr, .int .i64 fN, .int .i64 qt] 53)) := (Below.refl _ _).alloc (Nat.le_refl _) _
        have hra := heap_alloc_new wr (.cells #[.int .i64 qc, .int .i64 qo, .int .i64 qa, .bool qd, .int .i64 qr, .int .i64 fN, .int .i64 qt] 53)
        rw [← HG7.out] at hra
        have HRA0 := Bx.mk hra
        have HSA0 := Bx.mk (owns_below HS.out hba)
        have HBA0 := Bx.mk (bstep HBW.out hba)
        have HG7S : Bx (g7 ≠ gS) := ⟨by have := (HS.out.lt gS rfl).2; rw [HG7.out]; omega⟩
        clear hba hra
        go_upto_region 10 with fail
        rw [← HG7.out]
        generalize wr.alloc (.cells #[.int .i64 qc, .int .i64 qo, .int .i64 qa, .bool qd, .int .i64 qr, .int .i64 fN, .int .i64 qt] 53) = wa at HRA0 HSA0 HBA0 ⊢
        clear m0 m1 m2 m3 m4 m5 m6 y0 y1 y2 y3
        obtain ⟨_, _, e, _, y0, y1, y2, y3⟩ := (HE3.out.below HBA0.out).ev fN hfn
        cases e
        rw [HGF.out] at y0 y1 y2 y3
        simp only at y0 y1 y2 y3
        have k0 := cell_of_row _ g7 0 _ _ (0, 0) HRA0.out
        have k1 := cell_of_row _ g7 1 _ _ (0, 0) HRA0.out
        have k2 := cell_of_row _ g7 2 _ _ (0, 0) HRA0.out
        have k5 := cell_of_row _ g7 5 _ _ (0, 0) HRA0.out
        have heq := ev_eq qc qo qa true
        have g2 : decide (n ≤ fN) = false := by simpa using hfn
        have g3 : decide ((fN : Int) < 0) = false := by simp
        rcases Nat.eq_zero_or_pos i with hi0 | hip
        · have HI0 := Bx.mk hi0
          have hg0 : decide (0 < i) = false := by simp; omega
          have hg1 : decide ((0 : Int) < (i : Int)) = false := by simp; omega
          clear hi0
          go_wp2_with fail
          go_quiet (fail)
          have HSA := Bx.mk (owns_drewN HSA0.out nq)
          have HBA := Bx.mk (below_drewN HBA0.out nq)
          have HRA : Bx ((wa.drewN nq).heap[g7]? = _) := ⟨HRA0.out⟩
          generalize wa.drewN nq = wq at HSA HBA HRA ⊢
          clear k0 k1 k2 k5 y0 y1 y2 y3 HSA0 HBA0 HRA0 heq
          cases qd with
          | false =>
            obtain ⟨e1, e2⟩ := HOP.out rfl
            subst e1 e2
            replace HSN : Bx (∀ j : Nat, sn (O.take (i + 1)) j = sn (O.take i) j + (if fN = j then 1 else 0)) := ⟨fun j => (HSN.out j).trans sn_open⟩
            -- the call's place is counted; from the world wq
            have HRQ : Bx (wq.heap[g7]? = some (.cells #[.int .i64 qc, .int .i64 qo, .int .i64 qa, .bool false, .int .i64 0, .int .i64 fN, .int .i64 (-1)] 53 (0, 0))) := HRA
            have k5 := cell_of_row _ g7 5 _ _ (0, 0) HRQ.out
            have s0 := HSA.out.cellAt fN (by omega)
            rw [ctC_get n _ fN hfn] at s0
            have s1 := HSA.out.frozenAt fN
            have hsb := HSB.out fN hfn
            have HST : Bx ((wq.setCell ⟨gS, fN, none⟩ (.int .i64 ((sn (O.take i) fN : Nat) + 1 : Int))).ownsRow w3.heap.size 3 1 (.slice (some ⟨gS, 0, none⟩) n n) n (ctC n (fun j => sn (O.take i) j + if fN = j then 1 else 0))) := ⟨by
              have h1 := (HSA.out.stored fN (.int .i64 ((sn (O.take i) fN : Nat) + 1 : Int))).1
              rw [ctC_set n _ (fun j => sn (O.take i) j + if fN = j then 1 else 0) fN hfn _ (by rw [if_pos rfl]; push_cast; rfl) (fun j _ hne => by rw [if_neg (fun e => hne e.symm)]; rfl)] at h1
              exact h1⟩
            have HBT : Bx (Below w3.heap.size w3 (wq.setCell ⟨gS, fN, none⟩ (.int .i64 ((sn (O.take i) fN : Nat) + 1 : Int)))) := ⟨HBA.out.setCell (p := ⟨gS, fN, none⟩) HGS.out _⟩
            have HRT : Bx ((wq.setCell ⟨gS, fN, none⟩ (.int .i64 ((sn (O.take i) fN : Nat) + 1 : Int))).heap[g7]? = _) := ⟨(heap_setCell_other wq ⟨gS, fN, none⟩ g7 _ HG7S.out).trans HRQ.out⟩
            generalize hsf : sn (O.take i) fN = sf at s0 hsb HST HBT HRT
            clear hsf
            go_upto_region 13 with fail
            generalize wq.setCell ⟨gS, fN, none⟩ (.int .i64 ((sf : Int) + 1)) = wt at HST HBT HRT ⊢
            clear k5 s0 s1 hsb HSA HBA HRA HRQ
            -- it is open
            have k3 := cell_of_row _ g7 3 _ _ (0, 0) HRT.out
            have k4 := cell_of_row _ g7 4 _ _ (0, 0) HRT.out
            have k6 := cell_of_row _ g7 6 _ _ (0, 0) HRT.out
            have HNX : Bx (wt.ownsRow w3.heap.size 3 1 (.slice (some ⟨gS, 0, none⟩) n n) n (ctC n (fun j => sn (O.take (i + 1)) j))) := ⟨by
              rw [ctC_congr (g := fun j => sn (O.take i) j + if fN = j then 1 else 0) (fun j _ => HSN.out j)]
              exact HST.out⟩
            go_wp2_with fail
            go_roundw
            case rel => exact ⟨i + 1, by omega, by go_num, HNX, HBT⟩
            case measure => simp [intOf]; omega
          | true =>
            obtain ⟨hft0, tN, hte, htn, hgt⟩ := HDN.out rfl
            subst hte
            have hft : fN < tN := by omega
            have HGT := Bx.mk hgt
            replace HSN : Bx (∀ j : Nat, sn (O.take (i + 1)) j = sn (O.take i) j + (if fN = j then 1 else 0) + (if tN = j then 1 else 0)) := ⟨fun j => (HSN.out j).trans sn_done⟩
            clear hft0 hgt
            -- the call's place is counted; from the world wq
            have HRQ : Bx (wq.heap[g7]? = some (.cells #[.int .i64 qc, .int .i64 qo, .int .i64 qa, .bool true, .int .i64 qr, .int .i64 fN, .int .i64 tN] 53 (0, 0))) := HRA
            have k5 := cell_of_row _ g7 5 _ _ (0, 0) HRQ.out
            have s0 := HSA.out.cellAt fN (by omega)
            rw [ctC_get n _ fN hfn] at s0
            have s1 := HSA.out.frozenAt fN
            have hsb := HSB.out fN hfn
            have HST : Bx ((wq.setCell ⟨gS, fN, none⟩ (.int .i64 ((sn (O.take i) fN : Nat) + 1 : Int))).ownsRow w3.heap.size 3 1 (.slice (some ⟨gS, 0, none⟩) n n) n (ctC n (fun j => sn (O.take i) j + if fN = j then 1 else 0))) := ⟨by
              have h1 := (HSA.out.stored fN (.int .i64 ((sn (O.take i) fN : Nat) + 1 : Int))).1
              rw [ctC_set n _ (fun j => sn (O.take i) j + if fN = j then 1 else 0) fN hfn _ (by rw [if_pos rfl]; push_cast; rfl) (fun j _ hne => by rw [if_neg (fun e => hne e.symm)]; rfl)] at h1
              exact h1⟩
            have HBT : Bx (Below w3.heap.size w3 (wq.setCell ⟨gS, fN, none⟩ (.int .i64 ((sn (O.take i) fN : Nat) + 1 : Int)))) := ⟨HBA.out.setCell (p := ⟨gS, fN, none⟩) HGS.out _⟩
            have HRT : Bx ((wq.setCell ⟨gS, fN, none⟩ (.int .i64 ((sn (O.take i) fN : Nat) + 1 : Int))).heap[g7]? = _) := ⟨(heap_setCell_other wq ⟨gS, fN, none⟩ g7 _ HG7S.out).trans HRQ.out⟩
            generalize hsf : sn (O.take i) fN = sf at s0 hsb HST HBT HRT
            clear hsf
            go_upto_region 13 with fail
            generalize wq.setCell ⟨gS, fN, none⟩ (.int .i64 ((sf : Int) + 1)) = wt at HST HBT HRT ⊢
            clear k5 s0 s1 hsb HSA HBA HRA HRQ
            -- it is done
            have k0 := cell_of_row _ g7 0 _ _ (0, 0) HRT.out
            have k3 := cell_of_row _ g7 3 _ _ (0, 0) HRT.out
            have k4 := cell_of_row _ g7 4 _ _ (0, 0) HRT.out
            have k5 := cell_of_row _ g7 5 _ _ (0, 0) HRT.out
            have k6 := cell_of_row _ g7 6 _ _ (0, 0) HRT.out
            obtain ⟨_, _, e, _, z0, z1, z2, z3⟩ := (HE3.out.below HBT.out).ev tN htn
            cases e
            rw [HGT.out] at z0 z1 z2 z3
            simp only at z0 z1 z2 z3
            have heq2 := ev_eq qc 0 qr false
            have g1 : decide (tN ≤ fN) = false := by simpa using hft
            have g2 : decide (n ≤ tN) = false := by simpa using htn
            go_wp2_with fail
            go_quiet (fail)
            have HSX := Bx.mk (owns_drewN HST.out nq)
            have HBX := Bx.mk (below_drewN HBT.out nq)
            have HRX : Bx ((wt.drewN nq).heap[g7]? = _) := ⟨HRT.out⟩
            generalize wt.drewN nq = wx at HSX HBX HRX ⊢
            clear k0 k3 k4 k5 k6 z0 z1 z2 z3 HST HBT HRT heq2
            have k6 := cell_of_row _ g7 6 _ _ (0, 0) HRX.out
            have s0 := HSX.out.cellAt tN (by omega)
            rw [ctC_get n _ tN htn] at s0
            have s1 := HSX.out.frozenAt tN
            have hs0 : sn (O.take i) tN + (if fN = tN then 1 else 0) ≤ 2 := by have := HSB.out tN htn; split <;> omega
            have HSY : Bx ((wx.setCell ⟨gS, tN, none⟩ (.int .i64 (((sn (O.take i) tN + (if fN = tN then 1 else 0) : Nat) : Int) + 1))).ownsRow w3.heap.size 3 1 (.slice (some ⟨gS, 0, none⟩) n n) n (ctC n (fun j => sn (O.take (i + 1)) j))) := ⟨by
              have h1 := (HSX.out.stored tN (.int .i64 (((sn (O.take i) tN + (if fN = tN then 1 else 0) : Nat) : Int) + 1))).1
              rw [ctC_set n _ (fun j => sn (O.take (i + 1)) j) tN htn _ (by show _ = ((sn (O.take (i + 1)) tN : Nat) : Int); rw [HSN.out tN, if_pos (rfl : tN = tN)]; push_cast; rfl) (fun j _ hne => by show sn (O.take (i + 1)) j = _; rw [HSN.out j, if_neg (show ¬ tN = j from fun e => hne e.symm), Nat.add_zero])] at h1
              exact h1⟩
            have HBY : Bx (Below w3.heap.size w3 (wx.setCell ⟨gS, tN, none⟩ (.int .i64 (((sn (O.take i) tN + (if fN = tN then 1 else 0) : Nat) : Int) + 1)))) := ⟨HBX.out.setCell (p := ⟨gS, tN, none⟩) HGS.out _⟩
            generalize sn (O.take i) tN + (if fN = tN then 1 else 0) = st at s0 hs0 HSY HBY
            clear HRX HSX HBX
            go_wp2_with fail
            go_roundw
            case rel => exact ⟨i + 1, by omega, by go_num, HSY, HBY⟩
            case measure => simp [intOf]; omega
        · obtain ⟨pf, hpf⟩ := HPF.out hip
          have hpl := HPR.out hip pf hpf
          have hg0 : decide (0 < i) = true := by simpa using hip
          have hg1 : decide ((0 : Int) < (i : Int)) = true := by simp; omega
          obtain ⟨j, HJ⟩ : ∃ j, Bx (i = j + 1) := ⟨i - 1, ⟨by omega⟩⟩
          obtain ⟨_, _, e, _, _, _, _, _, _, p5, _⟩ := (HO3.out.below HBA0.out).or j (by have := HJ.out; omega)
          cases e
          rw [show i - 1 = j from by have := HJ.out; omega] at hpf
          rw [hpf] at p5
          have hjd : decide (fN ≤ pf) = false := by simp; omega
          have hjI : (i : Int) - 1 = (j : Int) := by have := HJ.out; omega
          have hjO : (j : Int) < ((O.length : Nat) : Int) := by have := HJ.out; omega
          clear hip hpf
          go_wp2_with fail
          go_quiet (fail)
          clear p5 hjI hjd hjO hpl
          have HSA := Bx.mk (owns_drewN HSA0.out nq)
          have HBA := Bx.mk (below_drewN HBA0.out nq)
          have HRA : Bx ((wa.drewN nq).heap[g7]? = _) := ⟨HRA0.out⟩
          generalize wa.drewN nq = wq at HSA HBA HRA ⊢
          clear k0 k1 k2 k5 y0 y1 y2 y3 HSA0 HBA0 HRA0 heq
          cases qd with
          | false =>
            obtain ⟨e1, e2⟩ := HOP.out rfl
            subst e1 e2
            replace HSN : Bx (∀ j : Nat, sn (O.take (i + 1)) j = sn (O.take i) j + (if fN = j then 1 else 0)) := ⟨fun j => (HSN.out j).trans sn_open⟩
            -- the call's place is counted; from the world wq
            have HRQ : Bx (wq.heap[g7]? = some (.cells #[.int .i64 qc, .int .i64 qo, .int .i64 qa, .bool false, .int .i64 0, .int .i64 fN, .int .i64 (-1)] 53 (0, 0))) := HRA
            have k5 := cell_of_row _ g7 5 _ _ (0, 0) HRQ.out
            have s0 := HSA.out.cellAt fN (by omega)
            rw [ctC_get n _ fN hfn] at s0
            have s1 := HSA.out.frozenAt fN
            have hsb := HSB.out fN hfn
            have HST : Bx ((wq.setCell ⟨gS, fN, none⟩ (.int .i64 ((sn (O.take i) fN : Nat) + 1 : Int))).ownsRow w3.heap.size 3 1 (.slice (some ⟨gS, 0, none⟩) n n) n (ctC n (fun j => sn (O.take i) j + if fN = j then 1 else 0))) := ⟨by
              have h1 := (HSA.out.stored fN (.int .i64 ((sn (O.take i) fN : Nat) + 1 : Int))).1
              rw [ctC_set n _ (fun j => sn (O.take i) j + if fN = j then 1 else 0) fN hfn _ (by rw [if_pos rfl]; push_cast; rfl) (fun j _ hne => by rw [if_neg (fun e => hne e.symm)]; rfl)] at h1
              exact h1⟩
            have HBT : Bx (Below w3.heap.size w3 (wq.setCell ⟨gS, fN, none⟩ (.int .i64 ((sn (O.take i) fN : Nat) + 1 : Int)))) := ⟨HBA.out.setCell (p := ⟨gS, fN, none⟩) HGS.out _⟩
            have HRT : Bx ((wq.setCell ⟨gS, fN, none⟩ (.int .i64 ((sn (O.take i) fN : Nat) + 1 : Int))).heap[g7]? = _) := ⟨(heap_setCell_other wq ⟨gS, fN, none⟩ g7 _ HG7S.out).trans HRQ.out⟩
            generalize hsf : sn (O.take i) fN = sf at s0 hsb HST HBT HRT
            clear hsf
            go_upto_region 13 with fail
            generalize wq.setCell ⟨gS, fN, none⟩ (.int .i64 ((sf : Int) + 1)) = wt at HST HBT HRT ⊢
            clear k5 s0 s1 hsb HSA HBA HRA HRQ
            -- it is open
            have k3 := cell_of_row _ g7 3 _ _ (0, 0) HRT.out
            have k4 := cell_of_row _ g7 4 _ _ (0, 0) HRT.out
            have k6 := cell_of_row _ g7 6 _ _ (0, 0) HRT.out
            have HNX : Bx (wt.ownsRow w3.heap.size 3 1 (.slice (some ⟨gS, 0, none⟩) n n) n (ctC n (fun j => sn (O.take (i + 1)) j))) := ⟨by
              rw [ctC_congr (g := fun j => sn (O.take i) j + if fN = j then 1 else 0) (fun j _ => HSN.out j)]
              exact HST.out⟩
            go_wp2_with fail
            go_roundw
            case rel => exact ⟨i + 1, by omega, by go_num, HNX, HBT⟩
            case measure => simp [intOf]; omega
          | true =>
            obtain ⟨hft0, tN, hte, htn, hgt⟩ := HDN.out rfl
            subst hte
            have hft : fN < tN := by omega
            have HGT := Bx.mk hgt
            replace HSN : Bx (∀ j : Nat, sn (O.take (i + 1)) j = sn (O.take i) j + (if fN = j then 1 else 0) + (if tN = j then 1 else 0)) := ⟨fun j => (HSN.out j).trans sn_done⟩
            clear hft0 hgt
            -- the call's place is counted; from the world wq
            have HRQ : Bx (wq.heap[g7]? = some (.cells #[.int .i64 qc, .int .i64 qo, .int .i64 qa, .bool true, .int .i64 qr, .int .i64 fN, .int .i64 tN] 53 (0, 0))) := HRA
            have k5 := cell_of_row _ g7 5 _ _ (0, 0) HRQ.out
            have s0 := HSA.out.cellAt fN (by omega)
            rw [ctC_get n _ fN hfn] at s0
            have s1 := HSA.out.frozenAt fN
            have hsb := HSB.out fN hfn
            have HST : Bx ((wq.setCell ⟨gS, fN, none⟩ (.int .i64 ((sn (O.take i) fN : Nat) + 1 : Int))).ownsRow w3.heap.size 3 1 (.slice (some ⟨gS, 0, none⟩) n n) n (ctC n (fun j => sn (O.take i) j + if fN = j then 1 else 0))) := ⟨by
              have h1 := (HSA.out.stored fN (.int .i64 ((sn (O.take i) fN : Nat) + 1 : Int))).1
              rw [ctC_set n _ (fun j => sn (O.take i) j + if fN = j then 1 else 0) fN hfn _ (by rw [if_pos rfl]; push_cast; rfl) (fun j _ hne => by rw [if_neg (fun e => hne e.symm)]; rfl)] at h1
              exact h1⟩
            have HBT : Bx (Below w3.heap.size w3 (wq.setCell ⟨gS, fN, none⟩ (.int .i64 ((sn (O.take i) fN : Nat) + 1 : Int)))) := ⟨HBA.out.setCell (p := ⟨gS, fN, none⟩) HGS.out _⟩
            have HRT : Bx ((wq.setCell ⟨gS, fN, none⟩ (.int .i64 ((sn (O.take i) fN : Nat) + 1 : Int))).heap[g7]? = _) := ⟨(heap_setCell_other wq ⟨gS, fN, none⟩ g7 _ HG7S.out).trans HRQ.out⟩
            generalize hsf : sn (O.take i) fN = sf at s0 hsb HST HBT HRT
            clear hsf
            go_upto_region 13 with fail
            generalize wq.setCell ⟨gS, fN, none⟩ (.int .i64 ((sf : Int) + 1)) = wt at HST HBT HRT ⊢
            clear k5 s0 s1 hsb HSA HBA HRA HRQ
            -- it is done
            have k0 := cell_of_row _ g7 0 _ _ (0, 0) HRT.out
            have k3 := cell_of_row _ g7 3 _ _ (0, 0) HRT.out
            have k4 := cell_of_row _ g7 4 _ _ (0, 0) HRT.out
            have k5 := cell_of_row _ g7 5 _ _ (0, 0) HRT.out
            have k6 := cell_of_row _ g7 6 _ _ (0, 0) HRT.out
            obtain ⟨_, _, e, _, z0, z1, z2, z3⟩ := (HE3.out.below HBT.out).ev tN htn
            cases e
            rw [HGT.out] at z0 z1 z2 z3
            simp only at z0 z1 z2 z3
            have heq2 := ev_eq qc 0 qr false
            have g1 : decide (tN ≤ fN) = false := by simpa using hft
            have g2 : decide (n ≤ tN) = false := by simpa using htn
            go_wp2_with fail
            go_quiet (fail)
            have HSX := Bx.mk (owns_drewN HST.out nq)
            have HBX := Bx.mk (below_drewN HBT.out nq)
            have HRX : Bx ((wt.drewN nq).heap[g7]? = _) := ⟨HRT.out⟩
            generalize wt.drewN nq = wx at HSX HBX HRX ⊢
            clear k0 k3 k4 k5 k6 z0 z1 z2 z3 HST HBT HRT heq2
            have k6 := cell_of_row _ g7 6 _ _ (0, 0) HRX.out
            have s0 := HSX.out.cellAt tN (by omega)
            rw [ctC_get n _ tN htn] at s0
            have s1 := HSX.out.frozenAt tN
            have hs0 : sn (O.take i) tN + (if fN = tN then 1 else 0) ≤ 2 := by have := HSB.out tN htn; split <;> omega
            have HSY : Bx ((wx.setCell ⟨gS, tN, none⟩ (.int .i64 (((sn (O.take i) tN + (if fN = tN then 1 else 0) : Nat) : Int) + 1))).ownsRow w3.heap.size 3 1 (.slice (some ⟨gS, 0, none⟩) n n) n (ctC n (fun j => sn (O.take (i + 1)) j))) := ⟨by
              have h1 := (HSX.out.stored tN (.int .i64 (((sn (O.take i) tN + (if fN = tN then 1 else 0) : Nat) : Int) + 1))).1
              rw [ctC_set n _ (fun j => sn (O.take (i + 1)) j) tN htn _ (by show _ = ((sn (O.take (i + 1)) tN : Nat) : Int); rw [HSN.out tN, if_pos (rfl : tN = tN)]; push_cast; rfl) (fun j _ hne => by show sn (O.take (i + 1)) j = _; rw [HSN.out j, if_neg (show ¬ tN = j from fun e => hne e.symm), Nat.add_zero])] at h1
              exact h1⟩
            have HBY : Bx (Below w3.heap.size w3 (wx.setCell ⟨gS, tN, none⟩ (.int .i64 (((sn (O.take i) tN + (if fN = tN then 1 else 0) : Nat) : Int) + 1)))) := ⟨HBX.out.setCell (p := ⟨gS, tN, none⟩) HGS.out _⟩
            generalize sn (O.take i) tN + (if fN = tN then 1 else 0) = st at s0 hs0 HSY HBY
            clear HRX HSX HBX
            go_wp2_with fail
            go_roundw
            case rel => exact ⟨i + 1, by omega, by go_num, HSY, HBY⟩
            case measure => simp [intOf]; omega
      · obtain rfl : i = O.length := by omega
        have hkI : ¬ ((O.length : Nat) : Int) < ((O.length : Nat) : Int) := by omega
        have HS1 : Bx (∀ j, j < n → wr.cell? ⟨gS, j, none⟩ = some (.int .i64 1)) := ⟨fun j hj => by
          rw [HS.out.cellAt j (by omega), ctC_get n _ j hj, List.take_length, HINV.out.one j hj]; rfl⟩
        clear HS
        go_wp2_with fail
        go_loop [8] (fun i => ∃ k : Nat, k ≤ n ∧ i = .int .i64 k) (fun i => n - (intOf i).toNat)
        case atStart => exact ⟨0, Nat.zero_le _, rfl⟩
        case round =>
          obtain ⟨j, hjn, rfl⟩ := hrel
          by_cases hj : j < n
          · have hjI : (j : Int) < (n : Int) := by omega
            have s1 := HS1.out j hj
            go_wp2_with fail
            go_round
            case rel => exact ⟨j + 1, by omega, by go_num⟩
            case measure => simp [intOf]; omega
          · have hjI : ¬ (j : Int) < (n : Int) := by omega
            have HBI : Bx (Below w3.heap.size w3 wr) := HBW
            clear HS1 HBW
            go_wp2_with fail
            go_loopw [9] (fun i wr => ∃ k : Nat, k ≤ O.length ∧ i = .int .i64 k ∧ Bx (Below w3.heap.size w3 wr)) (fun i _ => O.length - (intOf i).toNat)
            case atStart => exact ⟨0, Nat.zero_le _, rfl, HBI⟩
            case round =>
              clear HBI
              obtain ⟨i, hiO, rfl, HBI⟩ := hrel
              obtain ⟨wo, hwo⟩ : ∃ wo, wo = wr := ⟨_, rfl⟩
              by_cases hlt : i < O.length
              · have hiI : (i : Int) < ((O.length : Nat) : Int) := by omega
                clear hwo
                go_wp2_with fail
                go_loopw [10] (fun k wr => ∃ m : Nat, m ≤ i ∧ k = .int .i64 m ∧ Bx (Below w3.heap.size w3 wr)) (fun k _ => i - (intOf k).toNat)
                case atStart => exact ⟨0, Nat.zero_le _, rfl, HBI⟩
                case round =>
                  clear HBI
                  obtain ⟨k, hki, rfl, HBK⟩ := hrel
                  by_cases hk : k < i
                  · have hkI2 : (k : Int) < (i : Int) := by omega
                    have hkO : (k : Int) < ((O.length : Nat) : Int) := by omega
                    have HBE := Bx.mk (pair_get HINV.out.bef hk hlt)
                    obtain ⟨b, off, rfl, hbl, x0, x1, x2, x3, x4, x5, x6⟩ := (HO3.out.below HBK.out).or k (by omega)
                    obtain ⟨_, _, e, _, y0, y1, y2, y3, y4, y5, y6⟩ := (HO3.out.below HBK.out).or i hlt
                    cases e
                    generalize O.getD k op0 = p at x0 x1 x2 x3 x4 x5 x6 HBE
                    generalize O.getD i op0 = q at y0 y1 y2 y3 y4 y5 y6 HBE
                    obtain ⟨pc, po, pa, pd, pr, pf, pt⟩ := p
                    obtain ⟨qc, qo, qa, qd, qr, qf, qt⟩ := q
                    simp only at x0 x1 x2 x3 x4 x5 x6 y0 y1 y2 y3 y4 y5 y6
                    by_cases hcc : pc = qc
                    · have hcq : (pc == qc) = true := by simpa using hcc
                      have HBT : Bx (befO ⟨pc, po, pa, pd, pr, pf, pt⟩ ⟨qc, qo, qa, qd, qr, qf, qt⟩ = true) := ⟨befO_yes (HBE.out hcc).1 (HBE.out hcc).2⟩
                      have HCL : Bx (∀ W : World, (W.cell? ⟨b, off + k * 7, none⟩ = some (.int .i64 pc) ∧ W.cell? ⟨b, off + k * 7 + 1, none⟩ = some (.int .i64 po) ∧ W.cell? ⟨b, off + k * 7 + 2, none⟩ = some (.int .i64 pa) ∧ W.cell? ⟨b, off + k * 7 + 3, none⟩ = some (.bool pd) ∧ W.cell? ⟨b, off + k * 7 + 4, none⟩ = some (.int .i64 pr) ∧ W.cell? ⟨b, off + k * 7 + 5, none⟩ = some (.int .i64 pf) ∧ W.cell? ⟨b, off + k * 7 + 6, none⟩ = some (.int .i64 pt) ∧ W.cell? ⟨b, off + i * 7, none⟩ = some (.int .i64 qc) ∧ W.cell? ⟨b, off + i * 7 + 1, none⟩ = some (.int .i64 qo) ∧ W.cell? ⟨b, off + i * 7 + 2, none⟩ = some (.int .i64 qa) ∧ W.cell? ⟨b, off + i * 7 + 3, none⟩ = some (.bool qd) ∧ W.cell? ⟨b, off + i * 7 + 4, none⟩ = some (.int .i64 qr) ∧ W.cell? ⟨b, off + i * 7 + 5, none⟩ = some (.int .i64 qf) ∧ W.cell? ⟨b, off + i * 7 + 6, none⟩ = some (.int .i64 qt) ∧ Below wr.heap.size wr W) → Calls Try.prog 24 #[.agg #[.int .i64 pc, .int .i64 po, .int .i64 pa, .bool pd, .int .i64 pr, .int .i64 pf, .int .i64 pt], .agg #[.int .i64 qc, .int .i64 qo, .int .i64 qa, .bool qd, .int .i64 qr, .int .i64 qf, .int .i64 qt]] W fun e w' => e = .returned (.bool true) ∧ (w'.cell? ⟨b, off + k * 7, none⟩ = some (.int .i64 pc) ∧ w'.cell? ⟨b, off + k * 7 + 1, none⟩ = some (.int .i64 po) ∧ w'.cell? ⟨b, off + k * 7 + 2, none⟩ = some (.int .i64 pa) ∧ w'.cell? ⟨b, off + k * 7 + 3, none⟩ = some (.bool pd) ∧ w'.cell? ⟨b, off + k * 7 + 4, none⟩ = some (.int .i64 pr) ∧ w'.cell? ⟨b, off + k * 7 + 5, none⟩ = some (.int .i64 pf) ∧ w'.cell? ⟨b, off + k * 7 + 6, none⟩ = some (.int .i64 pt) ∧ w'.cell? ⟨b, off + i * 7, none⟩ = some (.int .i64 qc) ∧ w'.cell? ⟨b, off + i * 7 + 1, none⟩ = some (.int .i64 qo) ∧ w'.cell? ⟨b, off + i * 7 + 2, none⟩ = some (.int .i64 qa) ∧ w'.cell? ⟨b, off + i * 7 + 3, none⟩ = some (.bool qd) ∧ w'.cell? ⟨b, off + i * 7 + 4, none⟩ = some (.int .i64 qr) ∧ w'.cell? ⟨b, off + i * 7 + 5, none⟩ = some (.int .i64 qf) ∧ w'.cell? ⟨b, off + i * 7 + 6, none⟩ = some (.int .i64 qt) ∧ Below wr.heap.size wr w')) := ⟨fun W ⟨z0, z1, z2, z3, z4, z5, z6, z7, z8, z9, z10, z11, z12, z13, hW⟩ => (before_any ⟨pc, po, pa, pd, pr, pf, pt⟩ ⟨qc, qo, qa, qd, qr, qf, qt⟩ W).mono fun e w' ⟨e1, hb⟩ => ⟨by rw [e1, HBT.out], by
                        have hlt9 : b < W.heap.size := Nat.lt_of_lt_of_le hbl hW.size
                        exact ⟨(hb.cell hlt9).trans z0, (hb.cell hlt9).trans z1, (hb.cell hlt9).trans z2, (hb.cell hlt9).trans z3, (hb.cell hlt9).trans z4, (hb.cell hlt9).trans z5, (hb.cell hlt9).trans z6, (hb.cell hlt9).trans z7, (hb.cell hlt9).trans z8, (hb.cell hlt9).trans z9, (hb.cell hlt9).trans z10, (hb.cell hlt9).trans z11, (hb.cell hlt9).trans z12, (hb.cell hlt9).trans z13, bstep hW hb⟩⟩⟩
                      have hS0 : wr.drew.cell? ⟨b, off + k * 7, none⟩ = some (.int .i64 pc) ∧ wr.drew.cell? ⟨b, off + k * 7 + 1, none⟩ = some (.int .i64 po) ∧ wr.drew.cell? ⟨b, off + k * 7 + 2, none⟩ = some (.int .i64 pa) ∧ wr.drew.cell? ⟨b, off + k * 7 + 3, none⟩ = some (.bool pd) ∧ wr.drew.cell? ⟨b, off + k * 7 + 4, none⟩ = some (.int .i64 pr) ∧ wr.drew.cell? ⟨b, off + k * 7 + 5, none⟩ = some (.int .i64 pf) ∧ wr.drew.cell? ⟨b, off + k * 7 + 6, none⟩ = some (.int .i64 pt) ∧ wr.drew.cell? ⟨b, off + i * 7, none⟩ = some (.int .i64 qc) ∧ wr.drew.cell? ⟨b, off + i * 7 + 1, none⟩ = some (.int .i64 qo) ∧ wr.drew.cell? ⟨b, off + i * 7 + 2, none⟩ = some (.int .i64 qa) ∧ wr.drew.cell? ⟨b, off + i * 7 + 3, none⟩ = some (.bool qd) ∧ wr.drew.cell? ⟨b, off + i * 7 + 4, none⟩ = some (.int .i64 qr) ∧ wr.drew.cell? ⟨b, off + i * 7 + 5, none⟩ = some (.int .i64 qf) ∧ wr.drew.cell? ⟨b, off + i * 7 + 6, none⟩ = some (.int .i64 qt) ∧ Below wr.heap.size wr wr.drew := ⟨x0, x1, x2, x3, x4, x5, x6, y0, y1, y2, y3, y4, y5, y6, (Below.refl _ _).drew⟩
                      clear hcc x0 x1 x2 x3 x4 x5 x6 y0 y1 y2 y3 y4 y5 y6 HBE HBT
                      go_wp2_with fail
                      go_region_held3 (fun W => W.cell? ⟨b, off + k * 7, none⟩ = some (.int .i64 pc) ∧ W.cell? ⟨b, off + k * 7 + 1, none⟩ = some (.int .i64 po) ∧ W.cell? ⟨b, off + k * 7 + 2, none⟩ = some (.int .i64 pa) ∧ W.cell? ⟨b, off + k * 7 + 3, none⟩ = some (.bool pd) ∧ W.cell? ⟨b, off + k * 7 + 4, none⟩ = some (.int .i64 pr) ∧ W.cell? ⟨b, off + k * 7 + 5, none⟩ = some (.int .i64 pf) ∧ W.cell? ⟨b, off + k * 7 + 6, none⟩ = some (.int .i64 pt) ∧ W.cell? ⟨b, off + i * 7, none⟩ = some (.int .i64 qc) ∧ W.cell? ⟨b, off + i * 7 + 1, none⟩ = some (.int .i64 qo) ∧ W.cell? ⟨b, off + i * 7 + 2, none⟩ = some (.int .i64 qa) ∧ W.cell? ⟨b, off + i * 7 + 3, none⟩ = some (.bool qd) ∧ W.cell? ⟨b, off + i * 7 + 4, none⟩ = some (.int .i64 qr) ∧ W.cell? ⟨b, off + i * 7 + 5, none⟩ = some (.int .i64 qf) ∧ W.cell? ⟨b, off + i * 7 + 6, none⟩ = some (.int .i64 qt) ∧ Below wr.heap.size wr W) (first | (exact hS0) | (exact hb6) | (assumption)) (first
                        | (go_at_call 24; refine (HCL.out _ (by assumption)).mono ?_; rintro e6 w6 ⟨rfl, hb6⟩))
                      rename_i hHeld
                      have HB6 := Bx.mk (bstep HBK.out hHeld.2.2.2.2.2.2.2.2.2.2.2.2.2.2)
                      clear hHeld hS0 HCL hb6
                      go_wp2_with fail
                      go_roundw
                      case rel => exact ⟨k + 1, by omega, by go_num, HB6⟩
                      case measure => simp [intOf]; omega
                    · have hcq : (pc == qc) = false := by simpa using hcc
                      clear hcc
                      go_wp2_with fail
                      go_quiet (fail)
                      go_wp2_with fail
                      go_roundw
                      case rel => exact ⟨k + 1, by omega, by go_num, ⟨below_drewN HBK.out _⟩⟩
                      case measure => simp [intOf]; omega
                  · have hkI2 : ¬ (k : Int) < (i : Int) := by omega
                    go_wp2_with fail
                    go_roundw
                    case rel => exact ⟨i + 1, by omega, by go_num, HBK⟩
                    case measure => simp [intOf]; omega
              · have hiI : ¬ (i : Int) < ((O.length : Nat) : Int) := by omega
                clear hwo
                go_wp2_with fail
                refine (lives14_any _).mono ?_
                rintro e w9 ⟨rfl, hb9⟩
                have hfin := bstep HB3.out (bstep HBI.out hb9)
                go_wp2_with fail
                go_ret
                exact ⟨rfl, hfin⟩
  · have hq : ((chk L).2 != 0) = true := by simpa using hok
    rw [opV_no hok]
    generalize (chk L).2 = ce at hq
    simp only [List.length_nil]
    clear hok
    go_wp2_with fail
    refine (lives14_any _).mono ?_
    rintro e w9 ⟨rfl, hb9⟩
    have hfin := bstep HB3.out hb9
    go_wp2_with fail
    go_ret
    exact ⟨rfl, hfin⟩

set_option maxRecDepth 100000 in
theorem lifted (os : Os) (started : os.Started) (H : Type) (enc : TypeId × Value → H) :
    ReturnsInHanded {} Try.checked os 7 .any (Rows.histWholeSpec.pre6 enc Try.prog Try.f7 Rows.histWholeRow.domain false) (Rows.histWholeSpec.post enc Try.prog Try.f7 false true false false) := by
  refine returnsInHanded_of_change (C := Try.checked) own started (by kernel_rfl) Try.func7
    (ChangeSpec.witness6 (enc := enc) (C := Try.checked) false ⟨#[], #[.slice none 0 0], []⟩ 8 (by kernel_rfl) (by kernel_rfl) (by kernel_rfl) (by kernel_rfl)) ?_
  intro W base args ds gs before hval0 hW hcnd _
  have hval : ∀ (j : Nat) t v, Try.f7.params[j]? = some t → args[j]? = some v → Value.okWide Try.prog W .any base t v := hval0
  have hW' := hW
  obtain ⟨p, q, hA0, hV, rfl, hfz, hnd⟩ := hW
  have hA : DataW.TrodAll enc Try.prog W 0 (fun _ => true) true Try.f7.params.toList args.toList ds p := hA0
  rw [Try.params7] at hA hval
  obtain ⟨v0, vs0, d0, ds0, p0, q0, hargs, rfl, rfl, h0, r0⟩ := trodAll_cons hA
  obtain ⟨rfl, rfl, rfl⟩ := trodAll_nil r0
  obtain rfl : args = #[v0] := by cases args; simp_all
  obtain ⟨rfl, rfl⟩ := trodVars_none hV
  obtain ⟨a0, len0, cap0, rfl⟩ := okWide_slice Try.underlying22 (hval 0 22 v0 rfl rfl)
  have k0 := h0
  have lt0 : ∀ x ∈ p0, x.block < W.heap.size := by obtain ⟨m, hm⟩ := k0; exact DataW.trod_lt m _ _ _ hm
  obtain ⟨l, hl⟩ := open_evs h0
  clear hA0 hval0
  refine (walk a0 len0 cap0 l W hl).mono fun e W' ⟨he, bel⟩ => ?_
  subst he
  exact ⟨_, rfl, _, _, _, [], _, [], hW', trodAll_mk1 (shut_bool Try.underlying4 _), (trodAll_cons_mk (Below.trod laidOut (by kernel_rfl) (of_decide_eq_true (by kernel_rfl)) k0 bel lt0) trodAll_mk0), rfl, bel.frame _, fun h => by cases h⟩

theorem over : Rows.histWholeRow.holds Try.pinned (OpenSpec.ofChange Rows.histWholeSpec) :=
  OpenClaim.holds_of_wide 7 Try.f7 rfl rfl rfl rfl rfl rfl rfl ⟨rfl, rfl, rfl, rfl, rfl⟩ rfl rfl rfl rfl rfl (by kernel_rfl) Try.func7 (by kernel_rfl)
    (of_decide_eq_true (by kernel_rfl)) (by unfold Func.isWrapper; first | (rw [if_pos (by decide +kernel)]; kernel_rfl) | (rw [if_neg (by decide +kernel)]; exact ⟨rfl, rfl⟩))
    (fun os started H enc _ => lifted os started H enc)

/-- the statement -/
theorem proved : Rows.HistWholeSaid := over
end Go.Proofs.Ytbapegdmpipllaa.histWhole
namespace Go.Proofs.Ytbapegdmpipllaa
theorem histWhole_holds : Rows.HistWholeSaid := histWhole.proved
#print axioms histWhole_holds
end Go.Proofs.Ytbapegdmpipllaa
