/- What the document's own Through and Check answer. -/
import Derived.Test.YtbjeeefkbmdmfaaRTReg
import Derived.Test.YtbjeeefkbmdmfaaRCGo
import Derived.Test.YtbjeeefkbmdmfaaCMeas
namespace Go.Proofs.Ytbjeeefkbmdmfaa
open Go.RowKit
set_option linter.unusedVariables false

set_option maxRecDepth 100000 in
theorem TA.wk {base : Nat} {w0 w : World} {g hD eD hG eG : Nat} {a : Option Addr} {len cap : Nat} (h : TA base w0 w g #[.slice a len cap, .slice (some ⟨hD, 0, none⟩) len eD, .slice (some ⟨hG, 0, none⟩) len eG] (.slice (some ⟨hD, 0, none⟩) len eD) (.slice (some ⟨hG, 0, none⟩) len eG) len len none none) :
    Wk 123 base w g hD eD hG eG a len cap (List.replicate len (-1)) (G0 len) :=
  ⟨h.row, h.dep, h.gon, h.bg, fun e => h.nd (by rw [← e]; rfl), fun e => h.ng (by rw [← e]; rfl), fun e => h.n3 hD rfl (by rw [e]; rfl), by rw [List.length_replicate], by unfold G0; rw [List.length_replicate]⟩
set_option maxRecDepth 100000 in
theorem ta_new (w : World) (a : Option Addr) (len cap : Nat) : TA w.heap.size w (w.alloc (.cells #[.slice a len cap, .slice none 0 0, .slice none 0 0] 123)) w.heap.size #[.slice a len cap, .slice none 0 0, .slice none 0 0] (.slice none 0 0) (.slice none 0 0) 0 0 none none :=
  ⟨(Below.refl _ _).alloc (Nat.le_refl _) _, Nat.le_refl _, heap_alloc_new w _, Nat.le_refl _, World.ownsRow_nil _ _ _ _, World.ownsRow_nil _ _ _ _, (fun e => by cases e), (fun e => by cases e), (fun x e => by cases e), (fun x e => by cases e), (fun x e => by cases e)⟩
set_option maxHeartbeats 4000000 in
set_option maxRecDepth 100000 in
theorem refthrough_any (a : Option Addr) (len cap : Nat) (l : List Ic) (w : World) (h : Ics w a len cap l) :
    Calls Try.prog 58 #[.slice a len cap] w (MeP l w) := by
  have H := Bx.mk h
  have HLEN : Bx (l.length = len) := ⟨h.len_eq⟩
  have hm := Nat.le_trans h.le_cap h.cap_le
  unfold maxLen at hm
  clear h
  by_cases hlo : len < 1
  · have HF : Bx (thr l = ([], 0, 5)) := ⟨thr_big (.inl (by rw [HLEN.out]; exact hlo))⟩
    obtain rfl : len = 0 := by omega
    clear hlo
    go_enter Try.func58, Try.ntmps58
    go_wp2_with fail
    go_ret3
    exact mep_no (p := 0) HF.out (Below.refl _ _)
  by_cases hhi : 200 < len
  · have HF : Bx (thr l = ([], 0, 5)) := ⟨thr_big (.inr (by rw [HLEN.out]; exact hhi))⟩
    have h1 : ¬ (len : Int) < 1 := by omega
    have h2 : (200 : Int) < (len : Int) := by omega
    go_enter Try.func58, Try.ntmps58
    go_wp2_with fail
    go_ret3
    exact mep_no (p := 0) HF.out (Below.refl _ _)
  have h1 : ¬ (len : Int) < 1 := by omega
  have h2 : ¬ (200 : Int) < (len : Int) := by omega
  have HNB : Bx (¬ (l.length < 1 ∨ 200 < l.length)) := ⟨by rw [HLEN.out]; omega⟩
  have HT0 := Bx.mk (ta_new w a len cap)
  obtain ⟨g, HG⟩ : ∃ g, Bx (w.heap.size = g) := ⟨_, ⟨rfl⟩⟩
  go_enter Try.func58, Try.ntmps58
  go_wp2_with fail
  generalize hW : w.alloc (.cells #[.slice a len cap, .slice none 0 0, .slice none 0 0] 123) = w1 at HT0 ⊢
  clear hW
  have HT1 : Bx (TA w.heap.size w w1 g #[.slice a len cap, .slice none 0 0, .slice none 0 0] (.slice none 0 0) (.slice none 0 0) 0 0 none none) := ⟨by have := HT0.out; rw [← HG.out]; exact this⟩
  rw [HG.out]
  clear HT0
  go_loopw [6] (fun i wr => ∃ (m : Nat) (aD : Option Addr) (cD : Nat) (aG : Option Addr) (cG : Nat), m ≤ len ∧ i = .int .i64 m ∧ Bx (badR l m = badI l) ∧ Bx (TA w.heap.size w wr g #[.slice a len cap, .slice aD m cD, .slice aG m cG] (.slice aD m cD) (.slice aG m cG) m m none none)) (fun i _ => len - (intOf i).toNat)
  case atStart => exact ⟨0, none, 0, none, 0, Nat.zero_le _, rfl, ⟨rfl⟩, HT1⟩
  case round =>
    clear HT1
    obtain ⟨m, aD, cD, aG, cG, hml, rfl, HR, HT⟩ := hrel
    by_cases hlt : m < len
    · have hkI : (m : Int) < (len : Int) := by omega
      have hmL : m < l.length := by rw [HLEN.out]; exact hlt
      obtain ⟨b, off, rfl, hbl, x0, x1⟩ := (H.out.below HT.out.bel).ic m hlt
      have HBAD : Bx (canI len (l.getD m ic0) = false → thr l = ([], m, 15)) := ⟨fun hc => thr_code HNB.out (by rw [← HR.out]; exact badR_bad l m hmL (by rw [HLEN.out]; exact hc))⟩
      have HGO : Bx (canI len (l.getD m ic0) = true → badR l (m + 1) = badI l) := ⟨fun hc => by rw [← HR.out]; exact (badR_next l m hmL (by rw [HLEN.out]; exact hc)).symm⟩
      generalize l.getD m ic0 = x at x0 x1 HBAD HGO
      obtain ⟨o, n⟩ := x
      simp only at x0 x1
      cases his : isO o with
      | false =>
        have HF : Bx (thr l = ([], m, 15)) := ⟨HBAD.out (by unfold canI; rw [his]; rfl)⟩
        go_wp2_with (go_at_call 70; refine (is15_any _ _).mono ?_; rintro e wz ⟨rfl, hw⟩; replace hw := hw.symm; subst hw; rw [his])
        go_ret3
        exact mep_no HF.out HT.out.bel
      | true =>
        have HCN : Bx (canI len ⟨o, n⟩ = numB ⟨o, n⟩ len) := ⟨by unfold canI; rw [his]; rfl⟩
        rw [HCN.out] at HBAD HGO
        obtain ⟨o, rfl, ho19⟩ := opNat his
        go_wp2_with (go_at_call 70; refine (is15_any _ _).mono ?_; rintro e wz ⟨rfl, hw⟩; replace hw := hw.symm; subst hw; rw [his])
        refine (number_any o n len _ ho19 (by omega)).mono ?_
        rintro e w2 ⟨rfl, hb2⟩
        have HT2 := Bx.mk (HT.out.below hb2)
        clear hb2 HT x0 x1 hbl his HCN
        cases hc : numB ⟨o, n⟩ len with
        | false =>
          have HF : Bx (thr l = ([], m, 15)) := ⟨HBAD.out hc⟩
          clear hc
          go_wp2_with fail
          go_ret3
          exact mep_no HF.out HT2.out.bel
        | true =>
          have HF : Bx (badR l (m + 1) = badI l) := ⟨HGO.out hc⟩
          clear hc
          go_upto_region 9 with fail
          refine wp_region_held_drew (ops := rtNR) (S := fun _ : World => True) (by kernel_rfl) trivial (fun _ => ?_)
          refine rtNAll w w.heap.size g m (some ⟨b, off, none⟩) len cap aD cD aG cG (by omega) _ _ _ _ _ _ _ _ _ _ _ _ _ _ _ _ _ _ _ _ _ _ _ _ _ _ _ _ _ _ _ _ _ _ _ _ _ _ _ _ _ _ _ _ _ _ _ _ _ _ _ _ _ _ _ _ _ _ _ _ _ _ _ _ _ _ _ _ _ _ _ _ _ _ _ _ _ _ _ _ _ _ _ _ _ _ _ _ _ _ _ _ _ _ _ _ _ _ _ _ _ _ _ _ _ _ (fun d _ _ _ _ h => by cases d <;> exact h) ?_ _ (HT2.out.below ((Below.refl _ _).drew))
          intro wk k6 k12 hD eD hG eG hT
          have HT3 := Bx.mk hT
          clear hT HT2
          go_wp2_with fail
          go_roundw
          case rel => exact ⟨m + 1, _, eD, _, eG, by omega, by go_num, HF, HT3⟩
          case measure => simp [intOf]; omega
    · obtain rfl : m = len := by omega
      have hkI : ¬ (m : Int) < (m : Int) := by omega
      have h0I : (0 : Int) < (m : Int) := by omega
      have HBN : Bx (badI l = none) := ⟨by rw [← HR.out]; exact badR_end l m (by rw [HLEN.out]; exact Nat.le_refl _)⟩
      have HCA : Bx (∀ q, q < l.length → canI l.length (l.getD q ic0) = true) := ⟨can_all HBN.out⟩
      have HMI0 := Bx.mk (mi_zero HNB.out HBN.out)
      rw [HLEN.out] at HMI0
      obtain ⟨gd, _, e, _, _⟩ := HT.out.dep.form (by omega)
      cases e
      obtain ⟨gg, _, e, _, _⟩ := HT.out.gon.form (by omega)
      cases e
      have HW := Bx.mk HT.out.wk
      have HB := Bx.mk HT.out.bel
      clear HR HT
      obtain ⟨c0, c1, c2⟩ := HW.out.cells
      obtain ⟨d0, d1⟩ := HW.out.dcell 0 (by omega)
      have HW3 : Bx (Wk 123 w.heap.size (wr.setCell ⟨gd, 0, none⟩ (.int .i64 0)) g gd cD gg cG a m cap (D0 m) (G0 m)) := ⟨HW.out.setD 0 0⟩
      have HB3 : Bx (Below w.heap.size w (wr.setCell ⟨gd, 0, none⟩ (.int .i64 0))) := ⟨HB.out.setCell (p := ⟨gd, 0, none⟩) HW.out.ged _⟩
      generalize (List.replicate m (-1 : Int)).getD 0 (-1) = dz at d0
      clear HW HB
      go_wp2_with fail
      generalize wr.setCell ⟨gd, 0, none⟩ (.int .i64 0) = w3 at HW3 HB3 ⊢
      clear c0 c1 c2 d0 d1
      go_loopw [] (fun wx => ∃ D G, Bx (Wk 123 w.heap.size wx g gd cD gg cG a m cap D G) ∧ Bx (Below w.heap.size w wx) ∧ Bx (MI l D G)) (fun wx => unW wx gg m)
      case atStart => exact ⟨_, _, HW3, HB3, HMI0⟩
      case round =>
        clear HW3 HB3 HMI0
        obtain ⟨D, G, HW, HB, HMI⟩ := hrel
        obtain ⟨wo, hwo⟩ : ∃ wo, wo = wr := ⟨_, rfl⟩
        subst hwo
        obtain ⟨c0, c1, c2⟩ := HW.out.cells
        have HDL : Bx (D.length = m) := ⟨HW.out.dl⟩
        have HGL : Bx (G.length = m) := ⟨HW.out.gl⟩
        go_wp2_with fail
        go_loop [7] (fun i => ∃ k : Nat, k ≤ m ∧ i = .int .i64 k ∧ Bx (nxtR D G k = nxt D G)) (fun i => m - (intOf i).toNat)
        case atStart => exact ⟨0, Nat.zero_le _, rfl, ⟨rfl⟩⟩
        case round =>
          obtain ⟨k, hkm, rfl, HN⟩ := hrel
          by_cases hkl : k < m
          · have hkI2 : (k : Int) < (m : Int) := by omega
            have hkq : ((k : Int) == (m : Int)) = false := by simp; omega
            obtain ⟨y0, _⟩ := HW.out.dcell k hkl
            obtain ⟨z0, _⟩ := HW.out.gcell k hkl
            have HST : Bx (nxt D G = if G.getD k true = false ∧ D.getD k (-1) ≠ -1 then some k else nxtR D G (k + 1)) := ⟨by rw [← HN.out]; exact nxtR_step (by rw [HDL.out]; exact hkl) (by rw [HGL.out]; exact hkl)⟩
            obtain ⟨d, HDD⟩ : ∃ d, Bx (D.getD k (-1) = d) := ⟨_, ⟨rfl⟩⟩
            obtain ⟨q, HQQ⟩ : ∃ q, Bx (G.getD k true = q) := ⟨_, ⟨rfl⟩⟩
            rw [HDD.out] at y0 HST
            rw [HQQ.out] at z0 HST
            cases q with
            | true =>
              have HN2 : Bx (nxtR D G (k + 1) = nxt D G) := ⟨by rw [HST.out, if_neg (fun h => by cases h.1)]⟩
              go_wp2_with fail
              go_round
              case rel => exact ⟨k + 1, by omega, by go_num, HN2⟩
              case measure => simp [intOf]; omega
            | false =>
              by_cases hd : d = -1
              · have HN2 : Bx (nxtR D G (k + 1) = nxt D G) := ⟨by rw [HST.out, if_neg (fun h => h.2 hd)]⟩
                have hs : (d == -1) = true := by simpa using hd
                clear hd
                go_wp2_with fail
                go_round
                case rel => exact ⟨k + 1, by omega, by go_num, HN2⟩
                case measure => simp [intOf]; omega
              · have hs : (d == -1) = false := by simpa using hd
                have hn : nxt D G = some k := by rw [HST.out, if_pos ⟨rfl, hd⟩]
                obtain ⟨hpl, hd0, hd8⟩ := HMI.out.at hn
                have HCP : Bx (canI m (l.getD k ic0) = true) := ⟨by have := HCA.out k hpl; rw [HLEN.out] at this; exact this⟩
                have HTB : Bx ((goS (l.getD k ic0) D k).2 ≠ 0 → thr l = ([], k, (goS (l.getD k ic0) D k).2)) := ⟨fun he => by rw [← HMI.out.th]; exact thrR_bad hn he⟩
                have HSTP : Bx (∀ E, goS (l.getD k ic0) D k = (E, 0) → MI l E (G.set k true) ∧ unG (G.set k true) < unG G) := ⟨fun E he => HMI.out.step HCA.out hn he⟩
                have HUN := Bx.mk HW.out.un
                have HD := Bx.mk (And.intro hd0 hd8)
                clear hn hd0 hd8 hpl hd
                go_wp2_with fail
                clear c0 c1 c2 y0 z0 hs
                refine (goes_any k wo H.out HB.out HW.out hkl (by omega) HCP.out HD.out.1 HD.out.2).mono ?_
                rintro e w5 ⟨rfl, hw5, hb5⟩
                have HB5 := Bx.mk (HB.out.trans hb5)
                have HW5 := Bx.mk hw5
                clear hw5 hb5
                generalize goS (l.getD k ic0) D k = r at HTB HSTP HW5 ⊢
                obtain ⟨E, er⟩ := r
                simp only at HTB HW5 ⊢
                by_cases he : er = 0
                · subst he
                  obtain ⟨HM2, HU2⟩ : Bx _ ∧ Bx _ := ⟨⟨(HSTP.out E rfl).1⟩, ⟨(HSTP.out E rfl).2⟩⟩
                  have HUN5 := Bx.mk HW5.out.un
                  go_wp2_with fail
                  go_roundw
                  case rel => exact ⟨_, _, HW5, HB5, HM2⟩
                  case measure => rw [HUN.out, HUN5.out]; exact HU2.out
                · have HF : Bx (thr l = ([], k, er)) := ⟨HTB.out he⟩
                  have hq : (er != 0) = true := by simpa using he
                  clear he
                  go_wp2_with fail
                  go_ret3
                  exact mep_no HF.out HB5.out
          · obtain rfl : k = m := by omega
            have hkI2 : ¬ (k : Int) < (k : Int) := by omega
            have hkd : decide (k < k) = false := by simp
            have hkq : ((k : Int) == (k : Int)) = true := by simp
            have hn : nxt D G = none := by rw [← HN.out]; exact nxtR_end (by rw [HDL.out]; exact Nat.le_refl _)
            have HF : Bx (thr l = (D, 0, 0)) := ⟨by rw [← HMI.out.th]; exact thrR_none hn⟩
            clear hn
            go_wp2_with fail
            go_ret3
            exact mep_yes HF.out HW.out.dl HW.out.dep HB.out
set_option maxHeartbeats 400000 in
theorem refcheck15_any (a : Option Addr) (len cap : Nat) (l : List Ic) (w : World) (h : Ics w a len cap l) :
    Calls Try.prog 36 #[.slice a len cap] w fun e w' => e = .returned (.tuple #[.int .i64 (thr l).2.1, .int .i64 (thr l).2.2]) ∧ Below w.heap.size w w' := by
  go_enter Try.func36, Try.ntmps36
  go_wp2_with fail
  refine (refthrough_any a len cap l w h).mono ?_
  intro e w1 hm
  obtain ⟨v, rfl, _, hb⟩ := hm
  have HB := Bx.mk hb
  obtain ⟨p, HP⟩ : ∃ p, Bx ((thr l).2.1 = p) := ⟨_, ⟨rfl⟩⟩
  obtain ⟨r, HR⟩ : ∃ r, Bx ((thr l).2.2 = r) := ⟨_, ⟨rfl⟩⟩
  rw [HP.out, HR.out]
  clear hb
  go_wp2_with fail
  go_ret2
  exact ⟨by rw [HP.out, HR.out]; rfl, HB.out⟩
end Go.Proofs.Ytbjeeefkbmdmfaa
