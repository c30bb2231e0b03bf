/- What measure, Check, Depths answer. -/
import Derived.Test.YtbjeeefkbmdmfaaCBegin
import Derived.Test.YtbjeeefkbmdmfaaCGo
import Derived.Test.YtbjeeefkbmdmfaaLng
namespace Go.Proofs.Ytbjeeefkbmdmfaa
open Go.RowKit
set_option linter.unusedVariables false

/-- how many places were not gone through, as memory has it -/
def unW (w : World) (g : Nat) : Nat → Nat
  | 0 => 0
  | n + 1 => unW w g n + (match w.cell? ⟨g, n, none⟩ with | some (.bool false) => 1 | _ => 0)
set_option maxRecDepth 100000 in
theorem unW_take (w : World) (g : Nat) (G : List Bool) : ∀ n, n ≤ G.length → (∀ i, i < n → w.cell? ⟨g, i, none⟩ = some (.bool (G.getD i true))) → unW w g n = unG (G.take n)
  | 0, _, _ => rfl
  | n + 1, hn, h => by
    have ih := unW_take w g G n (by omega) (fun i hi => h i (by omega))
    have e : G.take (n + 1) = G.take n ++ [G.getD n true] := by
      rw [List.take_add_one, List.getElem?_eq_getElem (by omega), List.getD_eq_getElem?_getD, List.getElem?_eq_getElem (by omega)]; rfl
    rw [e, unG_app, ← ih]
    show unW w g n + (match w.cell? ⟨g, n, none⟩ with | some (.bool false) => 1 | _ => 0) = _
    rw [h n (by omega)]
    cases G.getD n true <;> rfl
set_option maxRecDepth 100000 in
theorem Wk.un {T : TypeId} {base : Nat} {w : World} {g gd cd gg cg : Nat} {a : Option Addr} {len cap : Nat} {D : List Int} {G : List Bool} (h : Wk T base w g gd cd gg cg a len cap D G) : unW w gg len = unG G := by
  rw [unW_take w gg G len (by rw [h.gl]; exact Nat.le_refl _) (fun i hi => (h.gcell i hi).1), List.take_of_length_le (by rw [h.gl]; exact Nat.le_refl _)]
/-- what measure answers -/
def MeP (l : List Ic) (w : World) (e : Ending) (w' : World) : Prop := ∃ v, e = .returned (.tuple #[v, .int .i64 (thr l).2.1, .int .i64 (thr l).2.2]) ∧ w'.ownsRow w.heap.size 3 1 v (thr l).1.length ((thr l).1.flatMap ivC) ∧ Below w.heap.size w w'
set_option maxRecDepth 100000 in
theorem mep_no {l : List Ic} {w w' : World} {p : Nat} {r : Int} (h : thr l = ([], p, r)) (hb : Below w.heap.size w w') : MeP l w (.returned (.tuple #[.slice none 0 0, .int .i64 p, .int .i64 r])) w' := by
  unfold MeP; rw [h]; exact ⟨_, rfl, World.ownsRow_nil _ _ _ _, hb⟩
set_option maxRecDepth 100000 in
theorem mep_yes {l : List Ic} {w w' : World} {D : List Int} {v : Value} {n : Nat} (h : thr l = (D, 0, 0)) (hn : D.length = n) (ho : w'.ownsRow w.heap.size 3 1 v n (D.flatMap ivC)) (hb : Below w.heap.size w w') : MeP l w (.returned (.tuple #[v, .int .i64 0, .int .i64 0])) w' := by
  unfold MeP; rw [h]; exact ⟨v, rfl, by rw [← hn] at ho; exact ho, hb⟩
/-- what holds while code is gone through -/
structure MI (l : List Ic) (D : List Int) (G : List Bool) : Prop where
  fi : FI l D G
  db : DB D
  th : thrR l D G = thr l
set_option maxRecDepth 100000 in
theorem MI.at {l : List Ic} {D : List Int} {G : List Bool} (h : MI l D G) {p : Nat} (hn : nxt D G = some p) : p < l.length ∧ 0 ≤ D.getD p (-1) ∧ D.getD p (-1) ≤ 8 := by
  obtain ⟨h1, _, _, h4⟩ := nxt_some hn
  refine ⟨by rw [← h.fi.dl]; exact h1, ?_⟩
  rcases h.db p with e | e
  · exact absurd e h4
  · exact e
set_option maxRecDepth 100000 in
theorem MI.step {l : List Ic} {D : List Int} {G : List Bool} (h : MI l D G) (hl : ∀ q, q < l.length → canI l.length (l.getD q ic0) = true) {p : Nat} (hn : nxt D G = some p) {E : List Int} (he : goS (l.getD p ic0) D p = (E, 0)) : MI l E (G.set p true) ∧ unG (G.set p true) < unG G := by
  obtain ⟨h1, h2, h3, h4⟩ := nxt_some hn
  have hp := h.at hn
  have e1 : (goS (l.getD p ic0) D p).1 = E := by rw [he]
  have e2 : (goS (l.getD p ic0) D p).2 = 0 := by rw [he]
  have f := h.fi.step (fun q hq => canI_is (hl q hq)) hn e2
  have d := goS_db (canI_is (hl p hp.1)) hp.2.1 h.db
  have t := thrR_next hn e2
  rw [e1] at f d t
  exact ⟨⟨f, d, t.symm.trans h.th⟩, by have := unG_set G p h2 h3; omega⟩
set_option maxRecDepth 100000 in
theorem mi_zero {l : List Ic} (h : ¬ (l.length < 1 ∨ 200 < l.length)) (hb : badI l = none) : MI l (D0 l.length) (G0 l.length) := ⟨fi_zero l (by omega), db_zero _, (thr_go h hb).symm⟩
set_option maxHeartbeats 4000000 in
set_option maxRecDepth 100000 in
theorem measure_any (a : Option Addr) (len cap : Nat) (l : List Ic) (w : World) (h : Ics w a len cap l) :
    Calls Try.prog 67 #[.slice a len cap] w (MeP l w) := by
  have H := Bx.mk h
  have HLEN : Bx (l.length = len) := ⟨h.len_eq⟩
  have hm := Nat.le_trans h.le_cap h.cap_le
  unfold maxLen at hm
  clear h
  by_cases hlo : len < 1
  · have HF : Bx (thr l = ([], 0, 5)) := ⟨thr_big (.inl (by rw [HLEN.out]; exact hlo))⟩
    obtain rfl : len = 0 := by omega
    clear hlo
    go_enter Try.func67, Try.ntmps67
    go_wp2_with fail
    go_ret3
    exact mep_no (p := 0) HF.out (Below.refl _ _)
  by_cases hhi : 200 < len
  · have HF : Bx (thr l = ([], 0, 5)) := ⟨thr_big (.inr (by rw [HLEN.out]; exact hhi))⟩
    have h1 : ¬ (len : Int) < 1 := by omega
    have h2 : (200 : Int) < (len : Int) := by omega
    go_enter Try.func67, Try.ntmps67
    go_wp2_with fail
    go_ret3
    exact mep_no (p := 0) HF.out (Below.refl _ _)
  have h1 : ¬ (len : Int) < 1 := by omega
  have h2 : ¬ (200 : Int) < (len : Int) := by omega
  have HNB : Bx (¬ (l.length < 1 ∨ 200 < l.length)) := ⟨by rw [HLEN.out]; omega⟩
  go_enter Try.func67, Try.ntmps67
  go_wp2_with fail
  go_loopw [21] (fun i wr => ∃ m : Nat, m ≤ len ∧ i = .int .i64 m ∧ Bx (badR l m = badI l) ∧ Bx (Below w.heap.size w wr)) (fun i _ => len - (intOf i).toNat)
  case atStart => exact ⟨0, Nat.zero_le _, rfl, ⟨rfl⟩, ⟨Below.refl _ _⟩⟩
  case round =>
    obtain ⟨m, hml, rfl, HR, HB⟩ := hrel
    by_cases hlt : m < len
    · have hkI : (m : Int) < (len : Int) := by omega
      have hmL : m < l.length := by rw [HLEN.out]; exact hlt
      obtain ⟨b, off, rfl, hbl, x0, x1⟩ := (H.out.below HB.out).ic m hlt
      have HBAD : Bx (canI len (l.getD m ic0) = false → thr l = ([], m, 15)) := ⟨fun hc => thr_code HNB.out (by rw [← HR.out]; exact badR_bad l m hmL (by rw [HLEN.out]; exact hc))⟩
      have HGO : Bx (canI len (l.getD m ic0) = true → badR l (m + 1) = badI l) := ⟨fun hc => by rw [← HR.out]; exact (badR_next l m hmL (by rw [HLEN.out]; exact hc)).symm⟩
      generalize l.getD m ic0 = x at x0 x1 HBAD HGO
      obtain ⟨o, n⟩ := x
      simp only at x0 x1
      have hba : Below wr.heap.size wr (wr.alloc (.cells #[.int .i64 o, .int .i64 n] 77)) := (Below.refl _ _).alloc (Nat.le_refl _) _
      have HB1 := Bx.mk (bstep HB.out hba)
      clear hba HB HR
      go_wp2_with fail
      generalize wr.alloc (.cells #[.int .i64 o, .int .i64 n] 77) = w1 at HB1 ⊢
      clear x0 x1 hbl
      refine (can15_any o n len _ (by omega)).mono ?_
      rintro e w2 ⟨rfl, hb2⟩
      have HB2 := Bx.mk (bstep HB1.out hb2)
      clear hb2 HB1
      cases hc : canI len ⟨o, n⟩ with
      | false =>
        have HF : Bx (thr l = ([], m, 15)) := ⟨HBAD.out hc⟩
        clear hc
        go_wp2_with fail
        go_ret3
        exact mep_no HF.out HB2.out
      | true =>
        have HF : Bx (badR l (m + 1) = badI l) := ⟨HGO.out hc⟩
        clear hc
        go_wp2_with fail
        go_roundw
        case rel => exact ⟨m + 1, by omega, by go_num, HF, HB2⟩
        case measure => simp [intOf]; omega
    · obtain rfl : m = len := by omega
      have hkI : ¬ (m : Int) < (m : Int) := by omega
      have HBN : Bx (badI l = none) := ⟨by rw [← HR.out]; exact badR_end l m (by rw [HLEN.out]; exact Nat.le_refl _)⟩
      have HCA : Bx (∀ q, q < l.length → canI l.length (l.getD q ic0) = true) := ⟨can_all HBN.out⟩
      have HMI0 := Bx.mk (mi_zero HNB.out HBN.out)
      rw [HLEN.out] at HMI0
      clear HR
      go_wp2_with fail
      refine (begin_any a m cap wr (by omega) (by omega)).mono ?_
      rintro e w3 ⟨g, gd, gg, rfl, hw3, hb3⟩
      have HW3 : Bx (Wk 141 w.heap.size w3 g gd m gg m a m cap (D0 m) (G0 m)) := ⟨⟨hw3.row, owns_base hw3.dep HB.out.size, owns_base hw3.gon HB.out.size, Nat.le_trans HB.out.size hw3.bg, hw3.n1, hw3.n2, hw3.n3, hw3.dl, hw3.gl⟩⟩
      have HB3 := Bx.mk (bstep HB.out hb3)
      clear hw3 hb3 HB
      go_wp2_with fail
      go_loopw [] (fun wx => ∃ D G, Bx (Wk 141 w.heap.size wx g gd m gg m a m cap D G) ∧ Bx (Below w.heap.size w wx) ∧ Bx (MI l D G)) (fun wx => unW wx gg m)
      case atStart => exact ⟨_, _, HW3, HB3, HMI0⟩
      case round =>
        clear HW3 HB3 HMI0
        obtain ⟨D, G, HW, HB, HMI⟩ := hrel
        obtain ⟨c0, c1, c2⟩ := HW.out.cells
        go_wp2_with fail
        refine (next_any _ HW.out (by omega)).mono ?_
        rintro e wz ⟨rfl, hw⟩
        replace hw := hw.symm
        subst hw
        cases hn : nxt D G with
        | none =>
          have HF : Bx (thr l = (D, 0, 0)) := ⟨by rw [← HMI.out.th]; exact thrR_none hn⟩
          unfold nxV
          simp only
          clear hn
          go_wp2_with fail
          go_ret3
          exact mep_yes HF.out HW.out.dl HW.out.dep HB.out
        | some p =>
          obtain ⟨hpl, hd0, hd8⟩ := HMI.out.at hn
          have hpm : p < m := by rw [← HLEN.out]; exact hpl
          have HCP : Bx (canI m (l.getD p ic0) = true) := ⟨by have := HCA.out p hpl; rw [HLEN.out] at this; exact this⟩
          have HTB : Bx ((goS (l.getD p ic0) D p).2 ≠ 0 → thr l = ([], p, (goS (l.getD p ic0) D p).2)) := ⟨fun he => by rw [← HMI.out.th]; exact thrR_bad hn he⟩
          have HST : Bx (∀ E, goS (l.getD p ic0) D p = (E, 0) → MI l E (G.set p true) ∧ unG (G.set p true) < unG G) := ⟨fun E he => HMI.out.step HCA.out hn he⟩
          have HUN := Bx.mk HW.out.un
          have HD := Bx.mk (And.intro hd0 hd8)
          unfold nxV
          simp only
          clear hn hd0 hd8 c0 c1 c2 hpl
          go_wp2_with fail
          refine (through_any p wr H.out HB.out HW.out hpm (by omega) HCP.out HD.out.1 HD.out.2).mono ?_
          rintro e w5 ⟨rfl, hw5, hb5⟩
          have HB5 := Bx.mk (HB.out.trans hb5)
          have HW5 := Bx.mk hw5
          clear hw5 hb5
          generalize goS (l.getD p ic0) D p = r at HTB HST HW5 ⊢
          obtain ⟨E, er⟩ := r
          simp only at HTB HW5 ⊢
          by_cases he : er = 0
          · subst he
            obtain ⟨HM2, HU2⟩ : Bx _ ∧ Bx _ := ⟨⟨(HST.out E rfl).1⟩, ⟨(HST.out E rfl).2⟩⟩
            have HUN5 := Bx.mk HW5.out.un
            go_wp2_with fail
            go_roundw
            case rel => exact ⟨_, _, HW5, HB5, HM2⟩
            case measure => rw [HUN.out, HUN5.out]; exact HU2.out
          · have HF : Bx (thr l = ([], p, er)) := ⟨HTB.out he⟩
            have hq : (er != 0) = true := by simpa using he
            clear he
            go_wp2_with fail
            go_ret3
            exact mep_no HF.out HB5.out
set_option maxHeartbeats 400000 in
theorem check15_any (a : Option Addr) (len cap : Nat) (l : List Ic) (w : World) (h : Ics w a len cap l) :
    Calls Try.prog 48 #[.slice a len cap] w fun e w' => e = .returned (.tuple #[.int .i64 (thr l).2.1, .int .i64 (thr l).2.2]) ∧ Below w.heap.size w w' := by
  go_enter Try.func48, Try.ntmps48
  go_wp2_with fail
  refine (measure_any a len cap l w h).mono ?_
  intro e w1 hm
  obtain ⟨v, rfl, _, hb⟩ := hm
  have HB := Bx.mk hb
  obtain ⟨p, HP⟩ : ∃ p, Bx ((thr l).2.1 = p) := ⟨_, ⟨rfl⟩⟩
  obtain ⟨r, HR⟩ : ∃ r, Bx ((thr l).2.2 = r) := ⟨_, ⟨rfl⟩⟩
  rw [HP.out, HR.out]
  clear hb
  go_wp2_with fail
  go_ret2
  exact ⟨by rw [HP.out, HR.out]; rfl, HB.out⟩
end Go.Proofs.Ytbjeeefkbmdmfaa
