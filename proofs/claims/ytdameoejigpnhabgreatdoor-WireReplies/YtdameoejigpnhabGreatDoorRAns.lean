/- A number, the empty line, so many bytes, as the document reads them. -/
import Derived.Test.YtdameoejigpnhabGreatDoorARead
import Derived.Test.YtdameoejigpnhabGreatDoorAAns2
namespace Go.Proofs.YtdameoejigpnhabGreatDoor
open Go.RowKit
set_option linter.unusedVariables false

set_option maxRecDepth 100000 in
theorem digs_at (l : List Int) (k : Nat) (h : k < l.length) : digs (l.drop k) = if dig (l.getD k 0) = true then digs (l.drop (k + 1)) + 1 else 0 := by
  rw [List.drop_eq_getElem_cons h, List.getD_eq_getElem?_getD, List.getElem?_eq_getElem h]
  rfl
set_option maxRecDepth 100000 in
theorem digs_over (l : List Int) (k : Nat) (h : l.length ≤ k) : digs (l.drop k) = 0 := by rw [List.drop_of_length_le h]; rfl
def eolL : List Int := [13, 10, 13, 10]
set_option maxRecDepth 100000 in
theorem eol_more {M : List Int} {i : Nat} (hi : i < 4) (hl : i < M.length) (h : M.take i = eolL.take i) (hc : M.getD i 0 = eolL.getD i 0) : M.take (i + 1) = eolL.take (i + 1) := by
  rw [take_succ_getD M i hl, take_succ_getD eolL i hi, h, hc]
set_option maxRecDepth 100000 in
theorem eol_short {M : List Int} {i : Nat} (hi : i < 4) (hl : M.length ≤ i) (h : M.take i = eolL.take i) : M.take 4 ≠ eolL ∧ M.take 4 = eolL.take M.length := by
  have hlen : M.length = i := by
    have h1 := congrArg List.length h
    rw [List.length_take, List.length_take] at h1
    have : eolL.length = 4 := rfl
    omega
  refine ⟨fun e => ?_, ?_⟩
  · have h1 := congrArg List.length e
    rw [List.length_take] at h1
    have : eolL.length = 4 := rfl
    omega
  · rw [hlen, ← h, List.take_of_length_le (by omega), List.take_of_length_le (by omega)]
set_option maxRecDepth 100000 in
theorem eol_bad {M : List Int} {i : Nat} (hi : i < 4) (hl : i < M.length) (hc : M.getD i 0 ≠ eolL.getD i 0) : M.take 4 ≠ eolL ∧ M.take 4 ≠ eolL.take M.length := by
  have h1 : (M.take 4)[i]? = M[i]? := by rw [List.getElem?_take, if_pos hi]
  refine ⟨fun e => hc ?_, fun e => hc ?_⟩
  · rw [List.getD_eq_getElem?_getD, List.getD_eq_getElem?_getD, ← h1, e]
  · rw [List.getD_eq_getElem?_getD, List.getD_eq_getElem?_getD, ← h1, e, List.getElem?_take, if_pos hl]
set_option maxRecDepth 100000 in
theorem cn_bad {b : List Int} (hr : rdD (b.take (digs b)) = none) : cntR b = ([], 0, 4) := by unfold cntR; rw [hr]
set_option maxRecDepth 100000 in
theorem cn_big {b : List Int} {n : Nat} (hr : rdD (b.take (digs b)) = some n) (hn : 8192 < n) : cntR b = ([], 0, 4) := by unfold cntR; rw [hr]; simp only; rw [if_pos hn]
set_option maxRecDepth 100000 in
theorem cn_end {b : List Int} {n : Nat} (hr : rdD (b.take (digs b)) = some n) (hn : ¬ 8192 < n) : cntR b = if (b.drop (digs b)).take 4 = eolL then (if b.length < digs b + 4 + n then ([], 0, 3) else ((b.drop (digs b + 4)).take n, digs b + 4 + n, 0)) else if (b.drop (digs b)).take 4 = eolL.take (b.drop (digs b)).length then ([], 0, 3) else ([], 0, 4) := by
  unfold cntR
  rw [hr]
  simp only
  rw [if_neg hn, List.length_drop]
  rfl
/-- what is answered: a body, how many bytes, an error -/
def CnP (T : List Int × Nat × Int) (w : World) (e : Ending) (w' : World) : Prop := Below w.heap.size w w' ∧ ∃ (a' : Option Addr) (c' : Nat), e = .returned (.tuple #[.slice a' T.1.length c', .int .i64 (T.2.1 : Int), .int .i64 T.2.2]) ∧ Bts w' a' T.1.length c' T.1
set_option maxRecDepth 100000 in
theorem CnP.none {T : List Int × Nat × Int} {x : Int} {w w' : World} {e : Ending} (hT : T = ([], 0, x)) (hb : Below w.heap.size w w') (he : e = .returned (.tuple #[.slice none 0 0, .int .i64 0, .int .i64 x])) : CnP T w e w' := by
  subst hT
  exact ⟨hb, Option.none, 0, he, bts_nil w'⟩
set_option maxRecDepth 100000 in
theorem eol_sb (i : Nat) (hi : i < 4) : sb ⟨#[13, 10, 13, 10]⟩ i = eolL.getD i 0 := by
  match i, hi with
  | 0, _ | 1, _ | 2, _ | 3, _ => rfl
set_option maxRecDepth 100000 in
set_option maxHeartbeats 4000000 in
set_option maxRecDepth 100000 in
theorem rcounted_any (a : Option Addr) (n c : Nat) (l : List Int) (w : World) (h : Bts w a n c l) (hn : n ≤ 1000000) :
    Calls Tryz.prog 29 #[.slice a n c] w (CnP (cntR l) w) := by
  have HB := Bx.mk h
  have HBY := Bx.mk h.byt
  have HSE : Bx (∀ i, i < 4 → sb (⟨#[13, 10, 13, 10]⟩ : ByteArray) i = eolL.getD i 0) := ⟨eol_sb⟩
  have hSZ : (⟨#[13, 10, 13, 10]⟩ : ByteArray).size = 4 := rfl
  have HLL := Bx.mk h.len_eq
  have CRD : Hid (∀ (s : ByteArray), s.size ≤ 1000000 → Calls Tryz.prog 41 #[.string s] w fun e w' => RdP s e ∧ w = w') := fun s hs => (refread_any s w (by omega)).mono fun e w' h => ⟨h.1, h.2.symm⟩
  clear h
  go_enter Tryz.func29, Tryz.ntmps29
  generalize (⟨#[13, 10, 13, 10]⟩ : ByteArray) = SE at *
  go_wp2_with fail
  go_loopw [6] (fun i wr => ∃ k : Nat, k ≤ n ∧ i = .int .i64 k ∧ w = wr ∧ Bx (k + digs (l.drop k) = digs l)) (fun i _ => n - (intOf i).toNat)
  case atStart => exact ⟨0, Nat.zero_le _, rfl, rfl, ⟨by rw [List.drop_zero, Nat.zero_add]⟩⟩
  case round =>
    obtain ⟨k, hk, rfl, hw, HK⟩ := hrel
    subst hw
    by_cases hlt : k < n
    · have hkI : (k : Int) < (n : Int) := by omega
      obtain ⟨b, off, ea, hltb, hcc⟩ := HB.out.spot (by omega)
      have hck := hcc k hlt
      have hbd := HBY.out.getD k
      have hda := digs_at l k (by rw [HLL.out]; exact hlt)
      generalize l.getD k 0 = C at *
      by_cases h48 : C ≥ 48
      · by_cases h57 : C ≤ 57
        · have HK2 : Bx (k + 1 + digs (l.drop (k + 1)) = digs l) := ⟨by have := HK.out; rw [hda, if_pos (by unfold dig; simp; omega)] at this; omega⟩
          cases ea
          clear hda hcc HK
          go_wp2
          go_roundw
          case rel => exact ⟨k + 1, by omega, by go_num, by first | rfl | trivial, HK2⟩
          case measure => simp [intOf]; omega
        · rw [if_neg (by unfold dig; simp; omega)] at hda
          rw [hda] at HK
          cases ea
          clear hda hcc
          have HDG : Bx (digs l = k) := ⟨by have := HK.out; omega⟩
          have hcv := (HB.out.cutl k hk).str
          have q1 : (k : Int) ≤ (c : Int) := by have := HB.out.le_cap; omega
          have q2 : (0 : Int) ≤ (k : Int) := by omega
          have hsz : (strOf (l.take k)).size ≤ 1000000 := by rw [strOf_size, List.length_take]; omega
          have hln := rd_link (l.take k) (HBY.out.take _)
          cases hr : rdD (l.take k) with
          | none =>
            have HF : Bx (cntR l = ([], 0, 4)) := ⟨cn_bad (by rw [HDG.out]; exact hr)⟩
            rw [hr] at hln
            simp only at hln
            have HLN := Bx.mk hln
            clear hr hln
            generalize strOf (l.take k) = SD at *
            go_wp2_with fail
            refine (CRD.out _ hsz).mono ?_
            rintro e w1 ⟨hrd, hw1⟩
            subst hw1
            unfold RdP at hrd
            rw [HLN.out] at hrd
            subst hrd
            go_wp2
            go_ret3
            exact CnP.none HF.out (Below.refl _ _) rfl
          | some N =>
            rw [hr] at hln
            simp only at hln
            by_cases h8 : 8192 < N
            · have HF : Bx (cntR l = ([], 0, 4)) := ⟨cn_big (by rw [HDG.out]; exact hr) h8⟩
              by_cases hbig : N ≤ 9223372036854775807
              · rw [if_pos hbig] at hln
                have HLN := Bx.mk hln
                have g8 : (N : Int) > 8192 := by omega
                clear hr hln
                generalize strOf (l.take k) = SD at *
                go_wp2_with fail
                refine (CRD.out _ hsz).mono ?_
                rintro e w1 ⟨hrd, hw1⟩
                subst hw1
                unfold RdP at hrd
                rw [HLN.out] at hrd
                subst hrd
                go_wp2
                go_ret3
                exact CnP.none HF.out (Below.refl _ _) rfl
              · rw [if_neg hbig] at hln
                have HLN := Bx.mk hln
                clear hr hln hbig
                generalize strOf (l.take k) = SD at *
                go_wp2_with fail
                refine (CRD.out _ hsz).mono ?_
                rintro e w1 ⟨hrd, hw1⟩
                subst hw1
                unfold RdP at hrd
                rw [HLN.out] at hrd
                subst hrd
                go_wp2
                go_ret3
                exact CnP.none HF.out (Below.refl _ _) rfl
            · rw [if_pos (by omega)] at hln
              have HLN := Bx.mk hln
              have g8 : ¬ (N : Int) > 8192 := by omega
              have HCN := Bx.mk (cn_end (b := l) (n := N) (by rw [HDG.out]; exact hr) h8)
              rw [HDG.out] at HCN
              have hML : (l.drop k).length = n - k := by rw [List.length_drop, HLL.out]
              have HMG : Bx (∀ j, (l.drop k).getD j 0 = l.getD (k + j) 0) := ⟨fun j => by rw [List.getD_eq_getElem?_getD, List.getD_eq_getElem?_getD, List.getElem?_drop]⟩
              have HPC := Bx.mk (fun h => HB.out.piece (k + 4) (k + 4 + N) (by omega) h)
              have HDT : Bx ((l.drop (k + 4)).take (k + 4 + N - (k + 4)) = (l.drop (k + 4)).take N) := ⟨by rw [show k + 4 + N - (k + 4) = N by omega]⟩
              clear hr hln hcv
              have hcv := (HB.out.cutl k hk).str
              generalize strOf (l.take k) = SD at *
              generalize hM : l.drop k = M at *
              clear hM
              go_wp2_with fail
              refine (CRD.out _ hsz).mono ?_
              rintro e w1 ⟨hrd, hw1⟩
              subst hw1
              unfold RdP at hrd
              rw [HLN.out] at hrd
              subst hrd
              clear hcv
              go_wp2_with fail
              go_loopw [9] (fun i wr => ∃ j : Nat, j ≤ 4 ∧ i = .int .i64 j ∧ Bx (Below w.heap.size w wr) ∧ Bx (M.take j = eolL.take j)) (fun i _ => 4 - (intOf i).toNat)
              case atStart => exact ⟨0, by omega, rfl, ⟨Below.refl _ _⟩, ⟨by rw [List.take_zero, List.take_zero]⟩⟩
              case round =>
                obtain ⟨j, hj, rfl, HBW, HT⟩ := hrel
                by_cases hj4 : j < 4
                · have gj : (j : Int) < 4 := by omega
                  by_cases hsh : n ≤ k + j
                  · have gs : (k : Int) + (j : Int) ≥ (n : Int) := by omega
                    have h9 := eol_short hj4 (by omega) HT.out
                    have HF : Bx (cntR l = ([], 0, 3)) := ⟨by rw [HCN.out, if_neg h9.1, if_pos h9.2]⟩
                    clear h9 HT
                    go_wp2
                    go_ret3
                    exact CnP.none HF.out HBW.out rfl
                  · have gs : ¬ (k : Int) + (j : Int) ≥ (n : Int) := by omega
                    have gk : (k : Int) + (j : Int) < (n : Int) := by omega
                    obtain ⟨b, off, ea, hlt, hcc⟩ := (HB.out.below HBW.out).spot (by omega)
                    have hck := hcc (k + j) (by omega)
                    have hbd := HBY.out.getD (k + j)
                    have hse : ∀ h, (((SE[j]'h).toNat : Nat) : Int) = eolL.getD j 0 := fun h => by rw [sb_eq, HSE.out j hj4]
                    have hsj : (j : Int) < (SE.size : Int) := by omega
                    have HMJ := Bx.mk (HMG.out j)
                    cases ea
                    clear hcc
                    generalize l.getD (k + j) 0 = C at *
                    by_cases hc : C = eolL.getD j 0
                    · have HT2 := Bx.mk (eol_more hj4 (by omega) HT.out (by rw [HMJ.out, hc]))
                      generalize eolL.getD j 0 = X at *
                      have gc : (C != X) = false := by simp [hc]
                      clear hc HT
                      go_wp2_with fail
                      go_quiet (fail)
                      have HBW2 := Bx.mk (below_drewN HBW.out nq)
                      generalize wr.drewN nq = wq at *
                      go_wp2
                      go_roundw
                      case rel => exact ⟨j + 1, by omega, by go_num, HBW2, HT2⟩
                      case measure => simp [intOf]; omega
                    · have h9 := eol_bad (M := M) hj4 (by omega) (by rw [HMJ.out]; exact hc)
                      have HF : Bx (cntR l = ([], 0, 4)) := ⟨by rw [HCN.out, if_neg h9.1, if_neg h9.2]⟩
                      generalize eolL.getD j 0 = X at *
                      have gc : (C != X) = true := by simp [hc]
                      clear hc HT h9
                      go_wp2_with fail
                      go_quiet (fail)
                      have HBW2 := Bx.mk (below_drewN HBW.out nq)
                      generalize wr.drewN nq = wq at *
                      go_wp2
                      go_ret3
                      exact CnP.none HF.out HBW2.out rfl
                · have gj : ¬ (j : Int) < 4 := by omega
                  have HT4 : M.take 4 = eolL := by have := HT.out; rw [show j = 4 by omega] at this; exact this
                  have HCN2 := HCN
                  rw [if_pos HT4] at HCN2
                  clear HT4
                  by_cases hlo : n < k + 4 + N
                  · have gl : (n : Int) < (k : Int) + 4 + (N : Int) := by omega
                    have HF : Bx (cntR l = ([], 0, 3)) := ⟨by rw [HCN2.out, if_pos (by rw [HLL.out]; exact hlo)]⟩
                    go_wp2
                    go_ret3
                    exact CnP.none HF.out HBW.out rfl
                  · have gl : ¬ (n : Int) < (k : Int) + 4 + (N : Int) := by omega
                    have HF : Bx (cntR l = ((l.drop (k + 4)).take N, k + 4 + N, 0)) := ⟨by rw [HCN2.out, if_neg (by rw [HLL.out]; exact hlo)]⟩
                    have hsl := fun W => run_sl_lh (some ⟨b, off, none⟩) n c (k + 4) (k + 4 + N) ((k : Int) + 4) ((k : Int) + 4 + (N : Int)) (by omega) (by omega) (by omega) (by have := HB.out.le_cap; omega) W
                    have hP := (HPC.out (by omega)).below HBW.out
                    rw [HDT.out] at hP
                    have HP := Bx.mk hP
                    have HPL := Bx.mk hP.len_eq
                    clear hP
                    generalize slA (some ⟨b, off, none⟩) (k + 4) c = A1 at *
                    generalize hBD : (l.drop (k + 4)).take N = BD at *
                    clear hBD
                    generalize hPN : k + 4 + N - (k + 4) = PN at *
                    have hPN2 : PN ≤ 10000 := by omega
                    clear hPN
                    generalize c - (k + 4) = C4 at *
                    go_wp2_with fail
                    refine (copy_any A1 PN C4 BD _ HP.out (by omega)).mono ?_
                    rintro e w3 ⟨v, rfl, hown, hb3⟩
                    have HB3 := Bx.mk (bstep HBW.out hb3)
                    obtain ⟨av, cv, hv, hmine⟩ := Bts.of_owns (by rw [← HPL.out] at hown; exact hown) HP.out.byt
                    subst hv
                    have HMI := Bx.mk hmine
                    clear hown hb3 hmine
                    generalize hBL : BD.length = BL at *
                    have HBL := Bx.mk hBL
                    have HTOT : Bx ((k : Int) + 4 + (N : Int) = ((k + 4 + N : Nat) : Int)) := ⟨by omega⟩
                    clear hBL
                    go_wp2
                    go_ret3
                    exact ⟨HB3.out, av, cv, by rw [HF.out]; show _ = Ending.returned (.tuple #[.slice av BD.length cv, .int .i64 ((k + 4 + N : Nat) : Int), .int .i64 0]); rw [HBL.out, ← HTOT.out]; rfl, by rw [HF.out]; show Bts _ _ BD.length _ _; rw [HBL.out]; exact HMI.out⟩
      · rw [if_neg (by unfold dig; simp; omega)] at hda
        rw [hda] at HK
        cases ea
        clear hda hcc
        have HDG : Bx (digs l = k) := ⟨by have := HK.out; omega⟩
        have hcv := (HB.out.cutl k hk).str
        have q1 : (k : Int) ≤ (c : Int) := by have := HB.out.le_cap; omega
        have q2 : (0 : Int) ≤ (k : Int) := by omega
        have hsz : (strOf (l.take k)).size ≤ 1000000 := by rw [strOf_size, List.length_take]; omega
        have hln := rd_link (l.take k) (HBY.out.take _)
        cases hr : rdD (l.take k) with
        | none =>
          have HF : Bx (cntR l = ([], 0, 4)) := ⟨cn_bad (by rw [HDG.out]; exact hr)⟩
          rw [hr] at hln
          simp only at hln
          have HLN := Bx.mk hln
          clear hr hln
          generalize strOf (l.take k) = SD at *
          go_wp2_with fail
          refine (CRD.out _ hsz).mono ?_
          rintro e w1 ⟨hrd, hw1⟩
          subst hw1
          unfold RdP at hrd
          rw [HLN.out] at hrd
          subst hrd
          go_wp2
          go_ret3
          exact CnP.none HF.out (Below.refl _ _) rfl
        | some N =>
          rw [hr] at hln
          simp only at hln
          by_cases h8 : 8192 < N
          · have HF : Bx (cntR l = ([], 0, 4)) := ⟨cn_big (by rw [HDG.out]; exact hr) h8⟩
            by_cases hbig : N ≤ 9223372036854775807
            · rw [if_pos hbig] at hln
              have HLN := Bx.mk hln
              have g8 : (N : Int) > 8192 := by omega
              clear hr hln
              generalize strOf (l.take k) = SD at *
              go_wp2_with fail
              refine (CRD.out _ hsz).mono ?_
              rintro e w1 ⟨hrd, hw1⟩
              subst hw1
              unfold RdP at hrd
              rw [HLN.out] at hrd
              subst hrd
              go_wp2
              go_ret3
              exact CnP.none HF.out (Below.refl _ _) rfl
            · rw [if_neg hbig] at hln
              have HLN := Bx.mk hln
              clear hr hln hbig
              generalize strOf (l.take k) = SD at *
              go_wp2_with fail
              refine (CRD.out _ hsz).mono ?_
              rintro e w1 ⟨hrd, hw1⟩
              subst hw1
              unfold RdP at hrd
              rw [HLN.out] at hrd
              subst hrd
              go_wp2
              go_ret3
              exact CnP.none HF.out (Below.refl _ _) rfl
          · rw [if_pos (by omega)] at hln
            have HLN := Bx.mk hln
            have g8 : ¬ (N : Int) > 8192 := by omega
            have HCN := Bx.mk (cn_end (b := l) (n := N) (by rw [HDG.out]; exact hr) h8)
            rw [HDG.out] at HCN
            have hML : (l.drop k).length = n - k := by rw [List.length_drop, HLL.out]
            have HMG : Bx (∀ j, (l.drop k).getD j 0 = l.getD (k + j) 0) := ⟨fun j => by rw [List.getD_eq_getElem?_getD, List.getD_eq_getElem?_getD, List.getElem?_drop]⟩
            have HPC := Bx.mk (fun h => HB.out.piece (k + 4) (k + 4 + N) (by omega) h)
            have HDT : Bx ((l.drop (k + 4)).take (k + 4 + N - (k + 4)) = (l.drop (k + 4)).take N) := ⟨by rw [show k + 4 + N - (k + 4) = N by omega]⟩
            clear hr hln hcv
            have hcv := (HB.out.cutl k hk).str
            generalize strOf (l.take k) = SD at *
            generalize hM : l.drop k = M at *
            clear hM
            go_wp2_with fail
            refine (CRD.out _ hsz).mono ?_
            rintro e w1 ⟨hrd, hw1⟩
            subst hw1
            unfold RdP at hrd
            rw [HLN.out] at hrd
            subst hrd
            clear hcv
            go_wp2_with fail
            go_loopw [9] (fun i wr => ∃ j : Nat, j ≤ 4 ∧ i = .int .i64 j ∧ Bx (Below w.heap.size w wr) ∧ Bx (M.take j = eolL.take j)) (fun i _ => 4 - (intOf i).toNat)
            case atStart => exact ⟨0, by omega, rfl, ⟨Below.refl _ _⟩, ⟨by rw [List.take_zero, List.take_zero]⟩⟩
            case round =>
              obtain ⟨j, hj, rfl, HBW, HT⟩ := hrel
              by_cases hj4 : j < 4
              · have gj : (j : Int) < 4 := by omega
                by_cases hsh : n ≤ k + j
                · have gs : (k : Int) + (j : Int) ≥ (n : Int) := by omega
                  have h9 := eol_short hj4 (by omega) HT.out
                  have HF : Bx (cntR l = ([], 0, 3)) := ⟨by rw [HCN.out, if_neg h9.1, if_pos h9.2]⟩
                  clear h9 HT
                  go_wp2
                  go_ret3
                  exact CnP.none HF.out HBW.out rfl
                · have gs : ¬ (k : Int) + (j : Int) ≥ (n : Int) := by omega
                  have gk : (k : Int) + (j : Int) < (n : Int) := by omega
                  obtain ⟨b, off, ea, hlt, hcc⟩ := (HB.out.below HBW.out).spot (by omega)
                  have hck := hcc (k + j) (by omega)
                  have hbd := HBY.out.getD (k + j)
                  have hse : ∀ h, (((SE[j]'h).toNat : Nat) : Int) = eolL.getD j 0 := fun h => by rw [sb_eq, HSE.out j hj4]
                  have hsj : (j : Int) < (SE.size : Int) := by omega
                  have HMJ := Bx.mk (HMG.out j)
                  cases ea
                  clear hcc
                  generalize l.getD (k + j) 0 = C at *
                  by_cases hc : C = eolL.getD j 0
                  · have HT2 := Bx.mk (eol_more hj4 (by omega) HT.out (by rw [HMJ.out, hc]))
                    generalize eolL.getD j 0 = X at *
                    have gc : (C != X) = false := by simp [hc]
                    clear hc HT
                    go_wp2_with fail
                    go_quiet (fail)
                    have HBW2 := Bx.mk (below_drewN HBW.out nq)
                    generalize wr.drewN nq = wq at *
                    go_wp2
                    go_roundw
                    case rel => exact ⟨j + 1, by omega, by go_num, HBW2, HT2⟩
                    case measure => simp [intOf]; omega
                  · have h9 := eol_bad (M := M) hj4 (by omega) (by rw [HMJ.out]; exact hc)
                    have HF : Bx (cntR l = ([], 0, 4)) := ⟨by rw [HCN.out, if_neg h9.1, if_neg h9.2]⟩
                    generalize eolL.getD j 0 = X at *
                    have gc : (C != X) = true := by simp [hc]
                    clear hc HT h9
                    go_wp2_with fail
                    go_quiet (fail)
                    have HBW2 := Bx.mk (below_drewN HBW.out nq)
                    generalize wr.drewN nq = wq at *
                    go_wp2
                    go_ret3
                    exact CnP.none HF.out HBW2.out rfl
              · have gj : ¬ (j : Int) < 4 := by omega
                have HT4 : M.take 4 = eolL := by have := HT.out; rw [show j = 4 by omega] at this; exact this
                have HCN2 := HCN
                rw [if_pos HT4] at HCN2
                clear HT4
                by_cases hlo : n < k + 4 + N
                · have gl : (n : Int) < (k : Int) + 4 + (N : Int) := by omega
                  have HF : Bx (cntR l = ([], 0, 3)) := ⟨by rw [HCN2.out, if_pos (by rw [HLL.out]; exact hlo)]⟩
                  go_wp2
                  go_ret3
                  exact CnP.none HF.out HBW.out rfl
                · have gl : ¬ (n : Int) < (k : Int) + 4 + (N : Int) := by omega
                  have HF : Bx (cntR l = ((l.drop (k + 4)).take N, k + 4 + N, 0)) := ⟨by rw [HCN2.out, if_neg (by rw [HLL.out]; exact hlo)]⟩
                  have hsl := fun W => run_sl_lh (some ⟨b, off, none⟩) n c (k + 4) (k + 4 + N) ((k : Int) + 4) ((k : Int) + 4 + (N : Int)) (by omega) (by omega) (by omega) (by have := HB.out.le_cap; omega) W
                  have hP := (HPC.out (by omega)).below HBW.out
                  rw [HDT.out] at hP
                  have HP := Bx.mk hP
                  have HPL := Bx.mk hP.len_eq
                  clear hP
                  generalize slA (some ⟨b, off, none⟩) (k + 4) c = A1 at *
                  generalize hBD : (l.drop (k + 4)).take N = BD at *
                  clear hBD
                  generalize hPN : k + 4 + N - (k + 4) = PN at *
                  have hPN2 : PN ≤ 10000 := by omega
                  clear hPN
                  generalize c - (k + 4) = C4 at *
                  go_wp2_with fail
                  refine (copy_any A1 PN C4 BD _ HP.out (by omega)).mono ?_
                  rintro e w3 ⟨v, rfl, hown, hb3⟩
                  have HB3 := Bx.mk (bstep HBW.out hb3)
                  obtain ⟨av, cv, hv, hmine⟩ := Bts.of_owns (by rw [← HPL.out] at hown; exact hown) HP.out.byt
                  subst hv
                  have HMI := Bx.mk hmine
                  clear hown hb3 hmine
                  generalize hBL : BD.length = BL at *
                  have HBL := Bx.mk hBL
                  have HTOT : Bx ((k : Int) + 4 + (N : Int) = ((k + 4 + N : Nat) : Int)) := ⟨by omega⟩
                  clear hBL
                  go_wp2
                  go_ret3
                  exact ⟨HB3.out, av, cv, by rw [HF.out]; show _ = Ending.returned (.tuple #[.slice av BD.length cv, .int .i64 ((k + 4 + N : Nat) : Int), .int .i64 0]); rw [HBL.out, ← HTOT.out]; rfl, by rw [HF.out]; show Bts _ _ BD.length _ _; rw [HBL.out]; exact HMI.out⟩
    · have hkI : ¬ (k : Int) < (n : Int) := by omega
      have hda := digs_over l k (by rw [HLL.out]; omega)
      rw [hda] at HK
      clear hda
      have HDG : Bx (digs l = k) := ⟨by have := HK.out; omega⟩
      have hcv := (HB.out.cutl k hk).str
      have q1 : (k : Int) ≤ (c : Int) := by have := HB.out.le_cap; omega
      have q2 : (0 : Int) ≤ (k : Int) := by omega
      have hsz : (strOf (l.take k)).size ≤ 1000000 := by rw [strOf_size, List.length_take]; omega
      have hln := rd_link (l.take k) (HBY.out.take _)
      cases hr : rdD (l.take k) with
      | none =>
        have HF : Bx (cntR l = ([], 0, 4)) := ⟨cn_bad (by rw [HDG.out]; exact hr)⟩
        rw [hr] at hln
        simp only at hln
        have HLN := Bx.mk hln
        clear hr hln
        generalize strOf (l.take k) = SD at *
        go_wp2_with fail
        refine (CRD.out _ hsz).mono ?_
        rintro e w1 ⟨hrd, hw1⟩
        subst hw1
        unfold RdP at hrd
        rw [HLN.out] at hrd
        subst hrd
        go_wp2
        go_ret3
        exact CnP.none HF.out (Below.refl _ _) rfl
      | some N =>
        rw [hr] at hln
        simp only at hln
        by_cases h8 : 8192 < N
        · have HF : Bx (cntR l = ([], 0, 4)) := ⟨cn_big (by rw [HDG.out]; exact hr) h8⟩
          by_cases hbig : N ≤ 9223372036854775807
          · rw [if_pos hbig] at hln
            have HLN := Bx.mk hln
            have g8 : (N : Int) > 8192 := by omega
            clear hr hln
            generalize strOf (l.take k) = SD at *
            go_wp2_with fail
            refine (CRD.out _ hsz).mono ?_
            rintro e w1 ⟨hrd, hw1⟩
            subst hw1
            unfold RdP at hrd
            rw [HLN.out] at hrd
            subst hrd
            go_wp2
            go_ret3
            exact CnP.none HF.out (Below.refl _ _) rfl
          · rw [if_neg hbig] at hln
            have HLN := Bx.mk hln
            clear hr hln hbig
            generalize strOf (l.take k) = SD at *
            go_wp2_with fail
            refine (CRD.out _ hsz).mono ?_
            rintro e w1 ⟨hrd, hw1⟩
            subst hw1
            unfold RdP at hrd
            rw [HLN.out] at hrd
            subst hrd
            go_wp2
            go_ret3
            exact CnP.none HF.out (Below.refl _ _) rfl
        · rw [if_pos (by omega)] at hln
          have HLN := Bx.mk hln
          have g8 : ¬ (N : Int) > 8192 := by omega
          have HCN := Bx.mk (cn_end (b := l) (n := N) (by rw [HDG.out]; exact hr) h8)
          rw [HDG.out] at HCN
          have hML : (l.drop k).length = n - k := by rw [List.length_drop, HLL.out]
          have HMG : Bx (∀ j, (l.drop k).getD j 0 = l.getD (k + j) 0) := ⟨fun j => by rw [List.getD_eq_getElem?_getD, List.getD_eq_getElem?_getD, List.getElem?_drop]⟩
          have HPC := Bx.mk (fun h => HB.out.piece (k + 4) (k + 4 + N) (by omega) h)
          have HDT : Bx ((l.drop (k + 4)).take (k + 4 + N - (k + 4)) = (l.drop (k + 4)).take N) := ⟨by rw [show k + 4 + N - (k + 4) = N by omega]⟩
          clear hr hln hcv
          have hcv := (HB.out.cutl k hk).str
          generalize strOf (l.take k) = SD at *
          generalize hM : l.drop k = M at *
          clear hM
          go_wp2_with fail
          refine (CRD.out _ hsz).mono ?_
          rintro e w1 ⟨hrd, hw1⟩
          subst hw1
          unfold RdP at hrd
          rw [HLN.out] at hrd
          subst hrd
          clear hcv
          go_wp2_with fail
          go_loopw [9] (fun i wr => ∃ j : Nat, j ≤ 4 ∧ i = .int .i64 j ∧ Bx (Below w.heap.size w wr) ∧ Bx (M.take j = eolL.take j)) (fun i _ => 4 - (intOf i).toNat)
          case atStart => exact ⟨0, by omega, rfl, ⟨Below.refl _ _⟩, ⟨by rw [List.take_zero, List.take_zero]⟩⟩
          case round =>
            obtain ⟨j, hj, rfl, HBW, HT⟩ := hrel
            by_cases hj4 : j < 4
            · have gj : (j : Int) < 4 := by omega
              by_cases hsh : n ≤ k + j
              · have gs : (k : Int) + (j : Int) ≥ (n : Int) := by omega
                have h9 := eol_short hj4 (by omega) HT.out
                have HF : Bx (cntR l = ([], 0, 3)) := ⟨by rw [HCN.out, if_neg h9.1, if_pos h9.2]⟩
                clear h9 HT
                go_wp2
                go_ret3
                exact CnP.none HF.out HBW.out rfl
              · have gs : ¬ (k : Int) + (j : Int) ≥ (n : Int) := by omega
                have gk : (k : Int) + (j : Int) < (n : Int) := by omega
                obtain ⟨b, off, ea, hlt, hcc⟩ := (HB.out.below HBW.out).spot (by omega)
                have hck := hcc (k + j) (by omega)
                have hbd := HBY.out.getD (k + j)
                have hse : ∀ h, (((SE[j]'h).toNat : Nat) : Int) = eolL.getD j 0 := fun h => by rw [sb_eq, HSE.out j hj4]
                have hsj : (j : Int) < (SE.size : Int) := by omega
                have HMJ := Bx.mk (HMG.out j)
                cases ea
                clear hcc
                generalize l.getD (k + j) 0 = C at *
                by_cases hc : C = eolL.getD j 0
                · have HT2 := Bx.mk (eol_more hj4 (by omega) HT.out (by rw [HMJ.out, hc]))
                  generalize eolL.getD j 0 = X at *
                  have gc : (C != X) = false := by simp [hc]
                  clear hc HT
                  go_wp2_with fail
                  go_quiet (fail)
                  have HBW2 := Bx.mk (below_drewN HBW.out nq)
                  generalize wr.drewN nq = wq at *
                  go_wp2
                  go_roundw
                  case rel => exact ⟨j + 1, by omega, by go_num, HBW2, HT2⟩
                  case measure => simp [intOf]; omega
                · have h9 := eol_bad (M := M) hj4 (by omega) (by rw [HMJ.out]; exact hc)
                  have HF : Bx (cntR l = ([], 0, 4)) := ⟨by rw [HCN.out, if_neg h9.1, if_neg h9.2]⟩
                  generalize eolL.getD j 0 = X at *
                  have gc : (C != X) = true := by simp [hc]
                  clear hc HT h9
                  go_wp2_with fail
                  go_quiet (fail)
                  have HBW2 := Bx.mk (below_drewN HBW.out nq)
                  generalize wr.drewN nq = wq at *
                  go_wp2
                  go_ret3
                  exact CnP.none HF.out HBW2.out rfl
            · have gj : ¬ (j : Int) < 4 := by omega
              have HT4 : M.take 4 = eolL := by have := HT.out; rw [show j = 4 by omega] at this; exact this
              have HCN2 := HCN
              rw [if_pos HT4] at HCN2
              clear HT4
              by_cases hlo : n < k + 4 + N
              · have gl : (n : Int) < (k : Int) + 4 + (N : Int) := by omega
                have HF : Bx (cntR l = ([], 0, 3)) := ⟨by rw [HCN2.out, if_pos (by rw [HLL.out]; exact hlo)]⟩
                go_wp2
                go_ret3
                exact CnP.none HF.out HBW.out rfl
              · have gl : ¬ (n : Int) < (k : Int) + 4 + (N : Int) := by omega
                have HF : Bx (cntR l = ((l.drop (k + 4)).take N, k + 4 + N, 0)) := ⟨by rw [HCN2.out, if_neg (by rw [HLL.out]; exact hlo)]⟩
                have hsl := fun W => run_sl_lh a n c (k + 4) (k + 4 + N) ((k : Int) + 4) ((k : Int) + 4 + (N : Int)) (by omega) (by omega) (by omega) (by have := HB.out.le_cap; omega) W
                have hP := (HPC.out (by omega)).below HBW.out
                rw [HDT.out] at hP
                have HP := Bx.mk hP
                have HPL := Bx.mk hP.len_eq
                clear hP
                generalize slA a (k + 4) c = A1 at *
                generalize hBD : (l.drop (k + 4)).take N = BD at *
                clear hBD
                generalize hPN : k + 4 + N - (k + 4) = PN at *
                have hPN2 : PN ≤ 10000 := by omega
                clear hPN
                generalize c - (k + 4) = C4 at *
                go_wp2_with fail
                refine (copy_any A1 PN C4 BD _ HP.out (by omega)).mono ?_
                rintro e w3 ⟨v, rfl, hown, hb3⟩
                have HB3 := Bx.mk (bstep HBW.out hb3)
                obtain ⟨av, cv, hv, hmine⟩ := Bts.of_owns (by rw [← HPL.out] at hown; exact hown) HP.out.byt
                subst hv
                have HMI := Bx.mk hmine
                clear hown hb3 hmine
                generalize hBL : BD.length = BL at *
                have HBL := Bx.mk hBL
                have HTOT : Bx ((k : Int) + 4 + (N : Int) = ((k + 4 + N : Nat) : Int)) := ⟨by omega⟩
                clear hBL
                go_wp2
                go_ret3
                exact ⟨HB3.out, av, cv, by rw [HF.out]; show _ = Ending.returned (.tuple #[.slice av BD.length cv, .int .i64 ((k + 4 + N : Nat) : Int), .int .i64 0]); rw [HBL.out, ← HTOT.out]; rfl, by rw [HF.out]; show Bts _ _ BD.length _ _; rw [HBL.out]; exact HMI.out⟩
end Go.Proofs.YtdameoejigpnhabGreatDoor
