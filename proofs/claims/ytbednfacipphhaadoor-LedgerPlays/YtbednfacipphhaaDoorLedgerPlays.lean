/- For every key, every row of entries and every two numbers the law LedgerPlays returns true and what came in reads as it did (P21.2, P21.3): what every row of entries answers, and what is told behind each of them: texts, heads, paths, growths. The package's table is as the program's text lays it (the card ties it). -/
import Derived.Test.YtbednfacipphhaaDoorDoor
import Derived.Test.YtbednfacipphhaaDoorLdTells
import Derived.Test.YtbednfacipphhaaDoorAubd
import Derived.Test.YtbednfacipphhaaDoorLdAdd
import Derived.Test.YtbednfacipphhaaDoorLdLives
import Derived.Test.YtbednfacipphhaaDoorAuac
import Derived.Test.YtbednfacipphhaaDoorAuaa
import Derived.Test.YtbednfacipphhaaDoorAubc
import Derived.Test.YtbednfacipphhaaDoorEnCut
import Derived.Test.YtbednfacipphhaaDoorLdFill
import Derived.WalkKit
import Derived.ShutString
import Derived.ChangeOld
import Derived.Below
namespace Go.Proofs.YtbednfacipphhaaDoor.ledgerPlays
open Go.ChangeShapes Go.WideShapes Go.ChangeAt Go.RowKit
open Go.ChangeMaps (open_string shut_string)
set_option linter.unusedVariables false

theorem laidOut : laidOutB Tryd.prog = true := by kernel_rfl

theorem owns_kept {w w' : World} {own : Nat → Prop} {base : Nat} {e : TypeId} {size n : Nat} {v : Value} {xs : List Value} (h : w.ownsRow base e size v n xs) (hk : Kept own w w') (hb : ∀ k, v.ownBlock = some k → ¬ own k) : w'.ownsRow base e size v n xs := by
  refine ⟨h.1, ?_⟩
  rcases h.2 with h2 | ⟨g, cap, cur, hv, hg, hh, r⟩
  · exact .inl h2
  · exact .inr ⟨g, cap, cur, hv, hg, (hk.block g (Array.getElem?_eq_some_iff.1 hh).1 (hb g (by rw [hv]; rfl))).trans hh, r⟩
theorem ot_kept_g {N g : Nat} {v : Value} {T T0 : List (List Int)} {K : List Int} {w0 w w' : World} {own : Nat → Prop} (h : OT N v T w0 w) (hl : Lg w own g K T0) (hk : Kept (fun b => b = g) w w') (hv : ∀ b, v.ownBlock = some b → b ≠ g) (hN : N ≤ g) : OT N v T w0 w' := by
  obtain ⟨xs, ho, hx⟩ := h.own
  refine ⟨h.low.trans (hk.low (fun k hk => by rw [hk]; exact hN) h.size), Nat.le_trans h.size hk.size, xs, owns_kept ho hk hv, fun i hi => ?_⟩
  obtain ⟨ai, li, ci, e1, e2, e3⟩ := hx i hi
  exact ⟨ai, li, ci, e1, e2.kept hk (fun hp p e => hl.far e2 hp p e), e3⟩
/-- what holds between two entries: the ledger, the document's texts -/
structure PlI (N : Nat) (g : Nat) (KY : List Int) (T : List (List Int)) (v : Value) (w0 wr : World) (own : Nat → Prop) : Prop where
  lg : Lg wr own g KY T
  ot : OT N v T w0 wr
  far : ∀ b, v.ownBlock = some b → ¬ own b
  new : ∀ b, own b → N ≤ b
theorem PlI.step {N g : Nat} {KY : List Int} {T : List (List Int)} {v : Value} {w0 wr w1 : World} {own : Nat → Prop} (h : PlI N g KY T v w0 wr own) (hb : Below wr.heap.size wr w1) : PlI N g KY T v w0 w1 own := ⟨h.lg.below hb, h.ot.step hb, h.far, h.new⟩

set_option maxRecDepth 100000 in
set_option maxHeartbeats 4000000 in
theorem walk (a0 : Option Addr) (len0 cap0 : Nat) (k : List Int) (a1 : Option Addr) (len1 cap1 : Nat) (l : List EC) (i : Int) (n : Int) (w : World) (hk : Bts w a0 len0 cap0 k) (hl : Ens w a1 len1 cap1 l ∧ EnsOk w l) (hi : -9223372036854775808 ≤ i ∧ i ≤ 9223372036854775807) (hn : -9223372036854775808 ≤ n ∧ n ≤ 9223372036854775807) (htab : Tab w) :
    Calls Tryd.prog 3 #[.slice a0 len0 cap0, .slice a1 len1 cap1, .int .i64 i, .int .i64 n] w fun e w' => e = .returned (.bool true) ∧ Below w.heap.size w w' := by
  have HT := Bx.mk htab
  have HLI := Bx.mk hl
  clear hl htab
  go_enter Tryd.func3, Tryd.ntmps3
  go_wp2_with fail
  refine (cut_any a0 len0 cap0 100 k _ hk (by decide)).mono ?_
  rintro x wz ⟨⟨n0, rfl, hkey⟩, hwz⟩
  subst hwz
  have HKL : Bx (n0 ≤ 1000000) := ⟨by have := hkey.len_eq; rw [List.length_take] at this; omega⟩
  generalize k.take 100 = KY at hkey
  have HKEY := Bx.mk hkey
  clear hkey hk
  have hkn := HKL.out
  go_wp2_with fail
  refine (copy_any a0 n0 cap0 KY _ HKEY.out (by omega)).mono ?_
  rintro x w1 ⟨v1, rfl, ho1, hb1⟩
  obtain ⟨am, cm, rfl, hm1⟩ := Bts.of_owns ho1 HKEY.out.byt
  have HO1 := Bx.mk ho1
  have HM1 := Bx.mk hm1
  have HB1 := Bx.mk hb1
  clear ho1 hm1 hb1
  go_wp2_with fail
  refine (new21_any am n0 cm KY _ HM1.out hkn).mono ?_
  rintro x w2 ⟨g, own, rfl, hlg, hnew, hb2⟩
  have HLG := Bx.mk hlg
  have HNW := Bx.mk hnew
  have HO2 := Bx.mk (owns_below HO1.out hb2)
  have HB2 := Bx.mk (bstep HB1.out hb2)
  have HS1 : Bx (w.heap.size ≤ w1.heap.size) := ⟨HB1.out.size⟩
  have HOL : Bx (∀ b, (Value.slice am n0 cm).ownBlock = some b → b < w1.heap.size) := ⟨fun b hb => (HO1.out.lt b hb).2⟩
  clear hlg hnew hb2 HO1 HM1 HB1
  go_wp2_with fail
  go_loopw [11] (fun j wr => ∃ (p : Nat) (l : List Int), p ≤ n0 ∧ j = .int .i64 p ∧ Bx (BuI w.heap.size am n0 cm l w2 wr)) (fun j _ => n0 - (intOf j).toNat)
  case atStart => exact ⟨0, KY, Nat.zero_le _, rfl, ⟨⟨by have := HO2.out.1; rw [bv_length] at this; omega, HO2.out, Kept.refl _ _⟩⟩⟩
  case round =>
    obtain ⟨p, l9, hp, rfl, HBU⟩ := hrel
    by_cases hlt : p < n0
    · have g1 : (p : Int) < (n0 : Int) := by omega
      obtain ⟨g1', _, e, _, _⟩ := owns_form HBU.out.own (by omega)
      cases e
      have k0 : wr.cell? ⟨g1', p, none⟩ = some (.int .u8 (l9.getD p 0)) := by
        rw [HBU.out.own.cellAt p (by omega), bv, List.getElem?_map, List.getElem?_eq_getElem (by rw [HBU.out.len]; exact hlt), List.getD_eq_getElem?_getD, List.getElem?_eq_getElem (by rw [HBU.out.len]; exact hlt)]; rfl
      have f0 := HBU.out.own.frozenAt p
      generalize l9.getD p 0 = y at k0
      go_wp2_with fail
      go_roundw
      case rel => exact ⟨p + 1, l9.set p _, by omega, by go_num, ⟨HBU.out.put _⟩⟩
      case measure => simp [intOf]; omega
    · have g1 : ¬ (p : Int) < (n0 : Int) := by omega
      obtain ⟨wo, hwo⟩ : ∃ wo, wo = wr := ⟨_, rfl⟩
      subst hwo
      have HBO : Bx (Below w.heap.size w wo) := ⟨HBU.out.low HB2.out HB2.out.size⟩
      have HLO : Bx (Lg wo own g KY []) := ⟨HLG.out.kept HBU.out.kept (fun b hb e => by have h1 := HNW.out b hb; have h2 := HOL.out b e; omega)⟩
      have HP0 : Bx (∃ own, PlI w.heap.size g KY [] (.slice none 0 0) w wo own) := ⟨own, HLO.out, ⟨HBO.out, HBO.out.size, [], World.ownsRow_nil _ _ _ _, fun i hi => absurd hi (Nat.not_lt_zero _)⟩, (fun b hb => by cases hb), fun b hb => Nat.le_trans HS1.out (HNW.out b hb)⟩
      clear HBU HLG HNW HO2 HB2 HOL HLO HBO
      go_wp2_with fail
      go_loopw [12, 13] (fun v j wr => ∃ (p : Nat) (T : List (List Int)), p ≤ len1 ∧ p ≤ 20 ∧ j = .int .i64 p ∧ Bx (∃ own, PlI w.heap.size g KY T v w wr own)) (fun _ j _ => 20 - (intOf j).toNat)
      case atStart => exact ⟨0, [], Nat.zero_le _, Nat.zero_le _, rfl, HP0⟩
      case round =>
        clear HP0
        obtain ⟨p, T, hp1, hp2, rfl, HP⟩ := hrel
        obtain ⟨vO, hvO⟩ : ∃ x, x = u12 := ⟨_, rfl⟩
        subst hvO
        obtain ⟨ow, hpl⟩ := HP.out
        have HPL := Bx.mk hpl
        obtain ⟨ta, tc, hvo, htx0⟩ := hpl.ot.txs
        subst hvo
        have HCAP : Bx (ta = none → tc = 0) := ⟨ot_nocap hpl.ot⟩
        clear hpl HP
        by_cases hgo : p < len1 ∧ p < 20
        · clear htx0
          obtain ⟨hlt1, hlt2⟩ := hgo
          have g2 : (p : Int) < (len1 : Int) := by omega
          have g3 : (p : Int) < 20 := by omega
          have HLW : Bx (Below w.heap.size w wr) := ⟨HPL.out.ot.low⟩
          have hpQ : p < l.length := by rw [HLI.out.1.len_eq]; exact hlt1
          obtain ⟨b, off, rfl, hblt, hr⟩ := (HLI.out.1.below HLW.out).ec p hpQ
          have HIV : Bx (Ivs wr l[p].a l[p].n l[p].c l[p].e.o) := ⟨(HLI.out.2 _ (List.getElem_mem hpQ)).below HLW.out⟩
          generalize l[p] = q at hr HIV
          have hzv := en0_run
          go_wp2_with (refine wpList_load_ec (q := q) rfl (.tmp 50) rfl rfl hr ?_)
          refine (cut20_any q.e q.a q.n q.c _ HIV.out q.dig).mono ?_
          rintro x w3 ⟨ca, cn, cc, rfl, hco, hb3⟩
          have HDE : Bx (EnD (cutE q.e)) := ⟨q.dig⟩
          have HIC := Bx.mk (iv_ofN hco)
          have HP3 := Bx.mk (HPL.out.step hb3)
          have HCV : Bx (∀ p, ca = some p → (Value.slice ta T.length tc).ownBlock ≠ some p.block) := ⟨fun p hp e => by
            obtain ⟨xs, hx, _⟩ := HPL.out.ot.own
            have h1 := (hx.lt p.block e).2
            have h2 := (hco.lt p.block (by rw [hp]; rfl)).1
            omega⟩
          clear hco hb3 hr HPL HIV HLW hblt hpQ
          generalize cutE q.e = ce at HDE HIC ⊢
          obtain ⟨hv, hbv, hth⟩ := en_varL w3 (a := ca) (n := cn) (c := cc) HDE.out
          have HV := Bx.mk hv
          have HTH := Bx.mk hth
          have HIE := Bx.mk (enA_info (e := ce) (a := ca) (n := cn) (c := cc) HDE.out)
          have HOE : Bx ((enA ce ca cn cc).all (·.oneCell') = true) := ⟨enA_one⟩
          have HIC4 := Bx.mk (HIC.out.below hbv)
          have HP4 := Bx.mk (HP3.out.step hbv)
          have HS4 : Bx (w3.heap.size ≤ w3.heap.size) := ⟨Nat.le_refl _⟩
          have HOUT : Bx ((∀ b, ow b → b ≠ w3.heap.size) ∧ (∀ b, (Value.slice ta T.length tc).ownBlock = some b → b ≠ w3.heap.size)) := ⟨⟨fun b hb e => by have := HP3.out.lg.lt b hb; omega, fun b hb e => by obtain ⟨xs, hx, _⟩ := HP3.out.ot.own; have := (hx.lt b hb).2; omega⟩⟩
          have HNG : Bx (w.heap.size ≤ w3.heap.size) := ⟨HP3.out.ot.size⟩
          have HBV := Bx.mk hbv
          clear hv hbv hth
          go_upto_region 15 with (refine wpList_store_mid rfl 35 (.tmp 14) (.tmp 52) rfl w3.heap.size 0 (enA ce ca cn cc) rfl rfl ?ht HIE.out HOE.out ?_; (case ht => exact HTH.out))
          clear hzv HTH HIE HOE
          obtain ⟨g14, HG14⟩ : ∃ x, Bx (x = w3.heap.size) := ⟨_, ⟨rfl⟩⟩
          rw [← HG14.out] at HV HIC4 HP4 HOUT HNG HBV ⊢
          generalize (w3.alloc (.cells (enA en0 none 0 0) 35)).setCells g14 0 (enA ce ca cn cc).toList = w4 at HV HIC4 HP4 HBV ⊢
          have ht : Int.tmod (p : Int) 5 = ((p % 5 : Nat) : Int) := rfl
          have c0 := HV.out.c0
          have f0 := HV.out.fr 0
          generalize p % 5 = m5 at ht
          by_cases h5 : (m5 : Int) < 4
          · go_upto_region 18 with fail
            have hb4 := HBV.out.setCell (p := ⟨g14, 0, none⟩) (Nat.le_refl _) (Value.int .i64 (T.length : Int))
            have hb5 : Below w3.heap.size w3 (w4.setCell ⟨g14, 0, none⟩ (Value.int .i64 (T.length : Int))) := HG14.out ▸ hb4
            obtain ⟨e1, HE1⟩ : ∃ e1 : En, Bx (e1 = ⟨(T.length : Int), ce.t, ce.H, ce.S, ce.k, ce.r, ce.o⟩) := ⟨_, ⟨rfl⟩⟩
            have HV5 : Bx (EnB (w4.setCell ⟨g14, 0, none⟩ (Value.int .i64 (T.length : Int))) g14 e1 ca cn cc) := ⟨by rw [HE1.out]; exact HV.out.setJ (T.length : Int)⟩
            have HIC5 : Bx (Ivs (w4.setCell ⟨g14, 0, none⟩ (Value.int .i64 (T.length : Int))) ca cn cc e1.o) := ⟨by rw [HE1.out]; exact HIC.out.below hb5⟩
            have HP5 := Bx.mk (HP3.out.step hb5)
            clear hb4 hb5 c0 f0 HV HIC4 HP4 HBV HIC HP3 HE1
            generalize w4.setCell ⟨g14, 0, none⟩ (Value.int .i64 (T.length : Int)) = w5 at HV5 HIC5 HP5 ⊢
            have HL64 : Bx (T.length ≤ 64) := ⟨HP5.out.lg.le⟩
            have HDE5 := Bx.mk HV5.out.dig
            obtain ⟨T6, HT6⟩ : ∃ x, Bx ((addT T e1).1 = x) := ⟨_, ⟨rfl⟩⟩
            obtain ⟨er, HER⟩ : ∃ x, Bx ((addT T e1).2 = x) := ⟨_, ⟨rfl⟩⟩
            go_wp2_with (refine wpList_load_en rfl (.tmp 14) rfl rfl HV5.out ?_)
            refine (radd21_any w.heap.size ta tc T w e1 ca cn cc _ HP5.out.ot HIC5.out HDE5.out HL64.out).mono ?_
            rintro x w6 ⟨vT, rfl, hot6, hk6, hn6⟩
            rw [HT6.out] at hot6
            rw [HER.out]
            have HLG6 := Bx.mk (HP5.out.lg.kept hk6 (fun b hb e => HP5.out.far b e hb))
            have HV6 := Bx.mk (HV5.out.kept hk6 (fun e => HOUT.out.2 _ e rfl))
            have HIC6 : Bx (Ivs w6 ca cn cc e1.o) := ⟨HIC5.out.keep (fun p hp hlt => hk6.block p.block hlt (fun e => HCV.out p hp e)) hk6.size⟩
            have HFR6 : Bx (∀ b, vT.ownBlock = some b → ¬ ow b) := ⟨fun b hb ho => by
              rcases hn6 b hb with h | h
              · exact HP5.out.far b h ho
              · have := HP5.out.lg.lt b ho; omega⟩
            have HNEW := Bx.mk HP5.out.new
            have HOT6 := Bx.mk hot6
            clear hot6 hk6 hn6 HV5 HIC5 HP5
            go_wp2_with (refine wpList_load_en rfl (.tmp 14) rfl rfl HV6.out ?_)
            refine (add21_any ow g KY T e1 ca cn cc _ HLG6.out HIC6.out HDE5.out).mono ?_
            rintro x w7 ⟨rfl, ow7, hlg7, hk7, hn7⟩
            rw [HT6.out] at hlg7
            rw [HER.out]
            have hot7 := ot_kept_g HOT6.out HLG6.out hk7 (fun b hb e => HFR6.out b hb (e ▸ HLG6.out.og)) (HNEW.out g HLG6.out.og)
            have HP7 : Bx (PlI w.heap.size g KY T6 vT w w7 ow7) := ⟨hlg7, hot7, (fun b hb ho => by
              rcases hn7 b ho with h | h
              · exact HFR6.out b hb h
              · obtain ⟨xs, hx, _⟩ := HOT6.out.own
                have := (hx.lt b hb).2
                omega), (fun b ho => by
              rcases hn7 b ho with h | h
              · exact HNEW.out b h
              · exact Nat.le_trans HOT6.out.size h)⟩
            obtain ⟨ta7, tc7, rfl, htx7⟩ := hot7.txs
            have HCAP7 : Bx (ta7 = none → tc7 = 0) := ⟨ot_nocap hot7⟩
            have HTX7 : Bx (Txs w7 ta7 T6.length tc7 T6) := ⟨htx7⟩
            have HLW7 : Bx (Below w.heap.size w w7) := ⟨hot7.low⟩
            clear hlg7 hk7 hn7 hot7 htx7 HLG6 HIC6 HV6 HFR6 HOT6 HNEW HT6
            have ge : (er != er) = false := bne_self_eq_false er
            go_wp2_with fail
            refine (tells21_any ow7 g KY T6 a0 n0 cap0 ta7 tc7 i n _ HP7.out.lg (HKEY.out.below HLW7.out) hkn HTX7.out HCAP7.out (HT.out.below HLW7.out)).mono ?_
            rintro x w8 ⟨rfl, hb8⟩
            have HP8 : Bx (∃ own, PlI w.heap.size g KY T6 (.slice ta7 T6.length tc7) w w8 own) := ⟨ow7, HP7.out.step hb8⟩
            clear hb8 HP7 HTX7 HLW7 HCAP7
            go_wp2_with fail
            go_roundw
            case rel => exact ⟨p + 1, T6, by omega, by omega, by go_num, HP8⟩
            case measure => simp [intOf]; omega
          · go_upto_region 18 with fail
            have HV5 := HV
            have HIC5 := HIC4
            have HP5 := HP4
            clear c0 f0 HV HIC4 HP4 HBV HIC HP3
            generalize ce = e1 at HV5 HIC5 ⊢
            have HL64 : Bx (T.length ≤ 64) := ⟨HP5.out.lg.le⟩
            have HDE5 := Bx.mk HV5.out.dig
            obtain ⟨T6, HT6⟩ : ∃ x, Bx ((addT T e1).1 = x) := ⟨_, ⟨rfl⟩⟩
            obtain ⟨er, HER⟩ : ∃ x, Bx ((addT T e1).2 = x) := ⟨_, ⟨rfl⟩⟩
            go_wp2_with (refine wpList_load_en rfl (.tmp 14) rfl rfl HV5.out ?_)
            refine (radd21_any w.heap.size ta tc T w e1 ca cn cc _ HP5.out.ot HIC5.out HDE5.out HL64.out).mono ?_
            rintro x w6 ⟨vT, rfl, hot6, hk6, hn6⟩
            rw [HT6.out] at hot6
            rw [HER.out]
            have HLG6 := Bx.mk (HP5.out.lg.kept hk6 (fun b hb e => HP5.out.far b e hb))
            have HV6 := Bx.mk (HV5.out.kept hk6 (fun e => HOUT.out.2 _ e rfl))
            have HIC6 : Bx (Ivs w6 ca cn cc e1.o) := ⟨HIC5.out.keep (fun p hp hlt => hk6.block p.block hlt (fun e => HCV.out p hp e)) hk6.size⟩
            have HFR6 : Bx (∀ b, vT.ownBlock = some b → ¬ ow b) := ⟨fun b hb ho => by
              rcases hn6 b hb with h | h
              · exact HP5.out.far b h ho
              · have := HP5.out.lg.lt b ho; omega⟩
            have HNEW := Bx.mk HP5.out.new
            have HOT6 := Bx.mk hot6
            clear hot6 hk6 hn6 HV5 HIC5 HP5
            go_wp2_with (refine wpList_load_en rfl (.tmp 14) rfl rfl HV6.out ?_)
            refine (add21_any ow g KY T e1 ca cn cc _ HLG6.out HIC6.out HDE5.out).mono ?_
            rintro x w7 ⟨rfl, ow7, hlg7, hk7, hn7⟩
            rw [HT6.out] at hlg7
            rw [HER.out]
            have hot7 := ot_kept_g HOT6.out HLG6.out hk7 (fun b hb e => HFR6.out b hb (e ▸ HLG6.out.og)) (HNEW.out g HLG6.out.og)
            have HP7 : Bx (PlI w.heap.size g KY T6 vT w w7 ow7) := ⟨hlg7, hot7, (fun b hb ho => by
              rcases hn7 b ho with h | h
              · exact HFR6.out b hb h
              · obtain ⟨xs, hx, _⟩ := HOT6.out.own
                have := (hx.lt b hb).2
                omega), (fun b ho => by
              rcases hn7 b ho with h | h
              · exact HNEW.out b h
              · exact Nat.le_trans HOT6.out.size h)⟩
            obtain ⟨ta7, tc7, rfl, htx7⟩ := hot7.txs
            have HCAP7 : Bx (ta7 = none → tc7 = 0) := ⟨ot_nocap hot7⟩
            have HTX7 : Bx (Txs w7 ta7 T6.length tc7 T6) := ⟨htx7⟩
            have HLW7 : Bx (Below w.heap.size w w7) := ⟨hot7.low⟩
            clear hlg7 hk7 hn7 hot7 htx7 HLG6 HIC6 HV6 HFR6 HOT6 HNEW HT6
            have ge : (er != er) = false := bne_self_eq_false er
            go_wp2_with fail
            refine (tells21_any ow7 g KY T6 a0 n0 cap0 ta7 tc7 i n _ HP7.out.lg (HKEY.out.below HLW7.out) hkn HTX7.out HCAP7.out (HT.out.below HLW7.out)).mono ?_
            rintro x w8 ⟨rfl, hb8⟩
            have HP8 : Bx (∃ own, PlI w.heap.size g KY T6 (.slice ta7 T6.length tc7) w w8 own) := ⟨ow7, HP7.out.step hb8⟩
            clear hb8 HP7 HTX7 HLW7 HCAP7
            go_wp2_with fail
            go_roundw
            case rel => exact ⟨p + 1, T6, by omega, by omega, by go_num, HP8⟩
            case measure => simp [intOf]; omega
        · have HLW : Bx (Below w.heap.size w wr) := ⟨HPL.out.ot.low⟩
          have HTX : Bx (Txs wr ta T.length tc T) := ⟨htx0⟩
          clear htx0
          by_cases h1 : p < len1
          · have g2 : (p : Int) < (len1 : Int) := by omega
            have g3 : ¬ (p : Int) < 20 := by omega
            go_wp2_with fail
            refine (tells21_any ow g KY T a0 n0 cap0 ta tc i n _ HPL.out.lg (HKEY.out.below HLW.out) hkn HTX.out HCAP.out (HT.out.below HLW.out)).mono ?_
            rintro x w6 ⟨rfl, hb6⟩
            have HP6 := Bx.mk (HPL.out.step hb6)
            have HTX6 := Bx.mk (HTX.out.below hb6)
            clear hb6 HPL HTX
            go_wp2_with fail
            refine (texts21_any ow g KY T _ HP6.out.lg).mono ?_
            rintro x w7 ⟨vt, rfl, hot7⟩
            obtain ⟨ta7, tc7, rfl, htx7⟩ := hot7.txs
            have HP7 := Bx.mk (HP6.out.step hot7.low)
            have HTX7 := Bx.mk (HTX6.out.below hot7.low)
            have HTY7 : Bx (Txs w7 ta7 T.length tc7 T) := ⟨htx7⟩
            clear hot7 htx7 HP6 HTX6
            go_wp2_with fail
            refine (tsame_yes ta7 ta T.length tc7 tc T _ HTY7.out HTX7.out).mono ?_
            rintro x w8 ⟨rfl, q8, rfl⟩
            go_wp2_with fail
            refine (lives21_any _).mono ?_
            rintro x w9 ⟨rfl, hb9⟩
            go_wp2_with fail
            go_ret
            exact ⟨rfl, bstep (below_drewN HP7.out.ot.low q8) hb9⟩
          · have g2 : ¬ (p : Int) < (len1 : Int) := by omega
            go_wp2_with fail
            refine (tells21_any ow g KY T a0 n0 cap0 ta tc i n _ HPL.out.lg (HKEY.out.below HLW.out) hkn HTX.out HCAP.out (HT.out.below HLW.out)).mono ?_
            rintro x w6 ⟨rfl, hb6⟩
            have HP6 := Bx.mk (HPL.out.step hb6)
            have HTX6 := Bx.mk (HTX.out.below hb6)
            clear hb6 HPL HTX
            go_wp2_with fail
            refine (texts21_any ow g KY T _ HP6.out.lg).mono ?_
            rintro x w7 ⟨vt, rfl, hot7⟩
            obtain ⟨ta7, tc7, rfl, htx7⟩ := hot7.txs
            have HP7 := Bx.mk (HP6.out.step hot7.low)
            have HTX7 := Bx.mk (HTX6.out.below hot7.low)
            have HTY7 : Bx (Txs w7 ta7 T.length tc7 T) := ⟨htx7⟩
            clear hot7 htx7 HP6 HTX6
            go_wp2_with fail
            refine (tsame_yes ta7 ta T.length tc7 tc T _ HTY7.out HTX7.out).mono ?_
            rintro x w8 ⟨rfl, q8, rfl⟩
            go_wp2_with fail
            refine (lives21_any _).mono ?_
            rintro x w9 ⟨rfl, hb9⟩
            go_wp2_with fail
            go_ret
            exact ⟨rfl, bstep (below_drewN HP7.out.ot.low q8) hb9⟩

set_option maxRecDepth 100000 in
/-- what the walk gives, for every argument and every world that holds the table -/
theorem contract (H : Type) (enc : TypeId × Value → H) (W : World) (base : Nat) (args : Array Value) (ds gs : List (DataW H)) (before : List MemPlace)
    (hval0 : ∀ (j : Nat) t v, Tryd.f3.params[j]? = some t → args[j]? = some v → Value.okWide Tryd.prog W .any base t v)
    (hW : DataW.Whole enc Tryd.prog Tryd.f3.params.toList Rows.ledgerPlaysSpec.vars false W args.toList ds gs before) (hL : laidMetH Tryd.prog Rows.ledgerPlaysRow.laid W) :
    Calls Tryd.prog 3 args W fun e W' => ∃ v, e = .returned v ∧ Rows.ledgerPlaysSpec.post enc Tryd.prog Tryd.f3 false true false false W args v W' := by
  have htab := tab_of_laid hL
  have hval : ∀ (j : Nat) t v, Tryd.f3.params[j]? = some t → args[j]? = some v → Value.okWide Tryd.prog W .any base t v := hval0
  have hW' := hW
  obtain ⟨p, q, hA0, hV, rfl, hfz, hnd⟩ := hW
  have hA : DataW.TrodAll enc Tryd.prog W 0 (fun _ => true) true Tryd.f3.params.toList args.toList ds p := hA0
  rw [Tryd.params3] at hA hval
  obtain ⟨v0, vs0, d0, ds0, p0, q0, hargs, rfl, rfl, h0, r0⟩ := trodAll_cons hA
  obtain ⟨v1, vs1, d1, ds1, p1, q1, rfl, rfl, rfl, h1, r1⟩ := trodAll_cons r0
  obtain ⟨v2, vs2, d2, ds2, p2, q2, rfl, rfl, rfl, h2, r2⟩ := trodAll_cons r1
  obtain ⟨v3, vs3, d3, ds3, p3, q3, rfl, rfl, rfl, h3, r3⟩ := trodAll_cons r2
  obtain ⟨rfl, rfl, rfl⟩ := trodAll_nil r3
  obtain rfl : args = #[v0, v1, v2, v3] := by cases args; simp_all
  obtain ⟨rfl, rfl⟩ := trodVars_none hV
  obtain ⟨a0, len0, cap0, rfl⟩ := okWide_slice Tryd.underlying22 (hval 0 22 v0 rfl rfl)
  obtain ⟨a1, len1, cap1, rfl⟩ := okWide_slice Tryd.underlying23 (hval 1 23 v1 rfl rfl)
  have k0 := h0
  have lt0 : ∀ x ∈ p0, x.block < W.heap.size := by obtain ⟨m, hm⟩ := k0; exact DataW.trod_lt m _ _ _ hm
  have k1 := h1
  have lt1 : ∀ x ∈ p1, x.block < W.heap.size := by obtain ⟨m, hm⟩ := k1; exact DataW.trod_lt m _ _ _ hm
  have k2 := h2
  have lt2 : ∀ x ∈ p2, x.block < W.heap.size := by obtain ⟨m, hm⟩ := k2; exact DataW.trod_lt m _ _ _ hm
  have k3 := h3
  have lt3 : ∀ x ∈ p3, x.block < W.heap.size := by obtain ⟨m, hm⟩ := k3; exact DataW.trod_lt m _ _ _ hm
  obtain ⟨k, hk⟩ := open_byt h0
  obtain ⟨l, hl⟩ := open_ens h1
  obtain ⟨i, rfl, hi⟩ := open_i64 (hval 2 3 v2 rfl rfl) h2
  obtain ⟨n, rfl, hn⟩ := open_i64 (hval 3 3 v3 rfl rfl) h3
  clear hA0 hval0
  refine (walk a0 len0 cap0 k a1 len1 cap1 l i n W hk hl hi hn htab).mono fun e W' ⟨he, bel⟩ => ?_
  subst he
  exact ⟨_, rfl, _, _, _, [], _, [], hW', trodAll_mk1 (shut_bool Tryd.underlying4 _), (trodAll_cons_mk (Below.trod laidOut (by kernel_rfl) (of_decide_eq_true (by kernel_rfl)) k0 bel lt0) (trodAll_cons_mk (Below.trod laidOut (by kernel_rfl) (of_decide_eq_true (by kernel_rfl)) k1 bel lt1) (trodAll_cons_mk (Below.trod laidOut (by kernel_rfl) (of_decide_eq_true (by kernel_rfl)) k2 bel lt2) (trodAll_cons_mk (Below.trod laidOut (by kernel_rfl) (of_decide_eq_true (by kernel_rfl)) k3 bel lt3) trodAll_mk0)))), rfl, bel.frame _, fun h => by cases h⟩

set_option maxRecDepth 100000 in
theorem laid_met (os : Os) : laidMet Tryd.prog Rows.ledgerPlaysRow.laid (({ World.holding Tryd.prog os ⟨#[], #[], []⟩ with heap := (World.holding Tryd.prog os ⟨#[], #[], []⟩).heap.setIfInBounds 0 (.cells (uv keyL).toArray 138) } : World).forCall (fun _ _ => 0) ⟨#[], #[.slice none 0 0, .slice none 0 0, .int .i64 0, .int .i64 0], []⟩).memory :=
  laidMet_of_run' 8 (by kernel_rfl) (by kernel_rfl)
set_option maxRecDepth 100000 in
theorem reads (os : Os) {H : Type} (enc : TypeId × Value → H) : ∃ places, DataW.whole enc Tryd.prog (({ World.holding Tryd.prog os ⟨#[], #[], []⟩ with heap := (World.holding Tryd.prog os ⟨#[], #[], []⟩).heap.setIfInBounds 0 (.cells (uv keyL).toArray 138) } : World).forCall (fun _ _ => 0) ⟨#[], #[.slice none 0 0, .slice none 0 0, .int .i64 0, .int .i64 0], []⟩).memory Tryd.f3.params.toList Rows.ledgerPlaysSpec.vars false (#[.slice none 0 0, .slice none 0 0, .int .i64 0, .int .i64 0] : Array Value).toList 8 = some ([.nil, .nil, .lit (.int .i64 0), .lit (.int .i64 0)], [], places) :=
  ⟨[], by kernel_rfl⟩
set_option maxRecDepth 100000 in
theorem lifted (os : Os) (started : os.Started) (H : Type) (enc : TypeId × Value → H) (F : Stop.Interp) :
    ReturnsInHanded {} Tryd.checked os 3 .any ((OpenSpec.ofChange Rows.ledgerPlaysSpec).preRow enc Tryd.prog Tryd.f3 Rows.ledgerPlaysRow.domain false Rows.ledgerPlaysRow.laid) (((OpenSpec.ofChange Rows.ledgerPlaysSpec).at F).post enc Tryd.prog Tryd.f3 false true false false) := by
  obtain ⟨places, hx⟩ := reads os enc
  refine returnsInHanded_of_row (C := Tryd.checked) (s := OpenSpec.ofChange Rows.ledgerPlaysSpec) own started (by kernel_rfl) Tryd.func3
    (witness_row_at (enc := enc) (C := Tryd.checked) false ({ World.holding Tryd.prog os ⟨#[], #[], []⟩ with heap := (World.holding Tryd.prog os ⟨#[], #[], []⟩).heap.setIfInBounds 0 (.cells (uv keyL).toArray 138) } : World) #[.slice none 0 0, .slice none 0 0, .int .i64 0, .int .i64 0] rfl (by kernel_rfl) (by kernel_rfl) (by kernel_rfl)
      (OpenSpec.preRow_of_cond 8 hx (by kernel_rfl) (fun k hk => by cases hk) (by kernel_rfl) (laid_met os))) ?_
  intro W base args ds gs before hval hW _ _ _ hL _ _
  exact contract H enc W base args ds gs before hval hW hL
theorem said : Rows.LedgerPlaysSaid :=
  OpenClaim.holds_of_cond 3 Tryd.f3 rfl rfl rfl rfl rfl rfl rfl ⟨rfl, rfl, rfl, rfl, rfl⟩ rfl rfl rfl rfl rfl (by kernel_rfl) Tryd.func3 (by kernel_rfl)
    (of_decide_eq_true (by kernel_rfl)) (by unfold Func.isWrapper; first | (rw [if_pos (by decide +kernel)]; kernel_rfl) | (rw [if_neg (by decide +kernel)]; exact ⟨rfl, rfl⟩))
    (fun os started H enc _ F => by rw [OpenClaim.pre_eq_preRow]; exact lifted os started H enc F)
theorem plain (f : FuncId) (fn : Func) (hf : Tryd.pinned.checked.prog.funcNamed "inquest/inquestlaw21.LedgerPlays" = some f) (hfn : Tryd.pinned.checked.prog.funcs[f]? = some fn) :
    false = Tryd.pinned.checked.prog.looks [] ∧ ∀ (j : Nat) t, fn.params[j]? = some t → Tryd.pinned.checked.prog.wantsStandIn t = false := by
  obtain rfl : f = 3 := Option.some.inj ((show Tryd.prog.funcNamed "inquest/inquestlaw21.LedgerPlays" = some 3 by kernel_rfl).symm.trans hf) |>.symm
  obtain rfl : fn = Tryd.f3 := (Option.some.inj (Tryd.func3.symm.trans hfn)).symm
  refine ⟨by kernel_rfl, fun j t ht => ?_⟩
  rw [Tryd.params3] at ht
  have hall : ([22, 23, 3, 3].all fun u => !Tryd.prog.wantsStandIn u) = true := by kernel_rfl
  have hm : t ∈ [22, 23, 3, 3] := by simpa using Array.mem_of_getElem? ht
  exact (show Tryd.prog.wantsStandIn t = false by simpa using List.all_eq_true.1 hall t hm)
/-- the tied card -/
theorem card : Rows.LedgerPlaysCardSaid :=
  Claim7.holds_tied_plain_at .later [] _ _ _ _ said (fun _ h => by cases h) (by kernel_rfl) (fun _ h => by cases h) ledgerPlays_row_tie rfl ⟨rfl, rfl⟩ (by kernel_rfl) rfl plain (by kernel_rfl)
end Go.Proofs.YtbednfacipphhaaDoor.ledgerPlays
namespace Go.Proofs.YtbednfacipphhaaDoor
theorem ledgerPlays_holds : Rows.LedgerPlaysCardSaid := ledgerPlays.card
#print axioms ledgerPlays_holds
end Go.Proofs.YtbednfacipphhaaDoor
