/- Which answer bytes begin with, as the document reads it. -/
import Derived.Test.YtdameoejigpnhabGreatDoorRAns
import Derived.BigQuiet
namespace Go.Proofs.YtdameoejigpnhabGreatDoor
open Go.RowKit
set_option linter.unusedVariables false

/-- the list of all statuses -/
def Cds (w : World) (g : Nat) : Prop := g < w.heap.size ∧ ∀ k, k < 12 → w.cell? ⟨g, k, none⟩ = some (.int .i64 (cdsL.getD k 0))
set_option maxRecDepth 100000 in
theorem Cds.below {w w' : World} {g : Nat} (h : Cds w g) (hb : Below w.heap.size w w') : Cds w' g := ⟨Nat.lt_of_lt_of_le h.1 hb.size, fun k hk => (hb.cell h.1).trans (h.2 k hk)⟩
def cdsV : List Value := cdsL.map (Value.int .i64)
set_option maxRecDepth 100000 in
theorem cds_cell (w : World) (k : Nat) (hk : k < 12) : (w.alloc (.cells cdsV.toArray 3)).cell? ⟨w.heap.size, k, none⟩ = some (.int .i64 (cdsL.getD k 0)) := by
  rw [World.cell?_alloc_new]
  match k, hk with
  | 0, _ | 1, _ | 2, _ | 3, _ | 4, _ | 5, _ | 6, _ | 7, _ | 8, _ | 9, _ | 10, _ | 11, _ => rfl
set_option maxRecDepth 100000 in
theorem rcodes_any (w : World) :
    Calls Tryz.prog 28 #[] w fun e w' => e = .returned (.slice (some ⟨w.heap.size, 0, none⟩) 12 12) ∧ Cds w' w.heap.size ∧ Below w.heap.size w w' := by
  have hcc := Bx.mk (cds_cell w)
  have hsz : Bx (w.heap.size < (w.alloc (.cells cdsV.toArray 3)).heap.size) := ⟨by simp⟩
  have hbl := Bx.mk ((Below.refl w.heap.size w).alloc (Nat.le_refl _) (.cells cdsV.toArray 3))
  go_enter Tryz.func28, Tryz.ntmps28
  go_wp2
  go_ret
  exact ⟨rfl, ⟨hsz.out, hcc.out⟩, hbl.out⟩
set_option maxRecDepth 100000 in
theorem cds_drop (k : Nat) (hk : k < 12) : cdsL.drop k = cdsL.getD k 0 :: cdsL.drop (k + 1) := by
  rw [List.drop_eq_getElem_cons (show k < cdsL.length from hk), List.getD_eq_getElem?_getD, List.getElem?_eq_getElem (show k < cdsL.length from hk)]
  rfl
set_option maxRecDepth 100000 in
theorem raF_cons (b : List Int) (c : Int) (cs : List Int) (short : Bool) : raF b (c :: cs) short =
    if b.length ≤ (ledL c).length then raF b cs (short || decide ((ledL c).take b.length = b)) else
    if b.take (ledL c).length ≠ ledL c then raF b cs short else
    if (cntR (b.drop (ledL c).length)).2.2 ≠ 0 then (0, [], 0, (cntR (b.drop (ledL c).length)).2.2) else (c, (cntR (b.drop (ledL c).length)).1, (ledL c).length + (cntR (b.drop (ledL c).length)).2.1, 0) := rfl
set_option maxRecDepth 100000 in
theorem cntR_le (b : List Int) : (cntR b).2.1 ≤ b.length := by
  unfold cntR
  split
  · exact Nat.zero_le _
  · split
    · exact Nat.zero_le _
    · split
      · split
        · exact Nat.zero_le _
        · show digs b + 4 + _ ≤ _; omega
      · split <;> exact Nat.zero_le _
set_option maxRecDepth 100000 in
theorem raF_nil (b : List Int) (short : Bool) : raF b [] short = if short = true then (0, [], 0, 3) else (0, [], 0, 4) := rfl
set_option maxRecDepth 100000 in
set_option maxHeartbeats 4000000 in
set_option maxRecDepth 100000 in
theorem rreadans_any (a : Option Addr) (n c : Nat) (l : List Int) (w : World) (h : Bts w a n c l) (hn : n ≤ 1000000) :
    Calls Tryz.prog 16 #[.slice a n c] w (RaP (raR l) w) := by
  have HB := Bx.mk h
  have HBY := Bx.mk h.byt
  have HLL := Bx.mk h.len_eq
  clear h
  go_enter Tryz.func16, Tryz.ntmps16
  go_wp2_with fail
  refine (rcodes_any _).mono ?_
  rintro e w1 ⟨rfl, hcd, hb1⟩
  have HCD := Bx.mk hcd
  have HB1 := Bx.mk hb1
  clear hcd hb1
  generalize w.heap.size = g at HCD ⊢
  go_wp2_with fail
  go_loopw [7, 8] (fun s i wr => ∃ (k : Nat) (sh : Bool), k ≤ 12 ∧ i = .int .i64 k ∧ s = .bool sh ∧ Bx (Below w.heap.size w wr) ∧ Bx (Cds wr g) ∧ Bx (raF l (cdsL.drop k) sh = raR l)) (fun _ i _ => 12 - (intOf i).toNat)
  case atStart => exact ⟨0, false, by omega, rfl, rfl, HB1, HCD, ⟨rfl⟩⟩
  case round =>
    clear HCD HB1
    obtain ⟨k, sh, hk, rfl, rfl, HBW, HCW, HR⟩ := hrel
    by_cases hlt : k < 12
    · have hkI : (k : Int) < 12 := by omega
      have hck := HCW.out.2 k hlt
      have HM := Bx.mk (cds_mem k hlt)
      rw [cds_drop k hlt, raF_cons] at HR
      generalize hKE : cdsL.getD k 0 = K at *
      have HKE := Bx.mk hKE
      clear hKE
      have HRS : Hid (∀ W, Calls Tryz.prog 13 #[.int .i64 K] W fun e w' => e = .returned (.string (strOf (rsnL K))) ∧ w' = W) := fun W => rreason_any K W
      have HDC : Hid (∀ W, Calls Tryz.prog 23 #[.int .i64 K] W fun e w' => e = .returned (.string (decB K.toNat)) ∧ w' = W) := fun W => by
        obtain ⟨x, hx, hx6⟩ := cds_nat HM.out
        rw [hx]; exact (refdec_any (x : Int).natAbs (x : Int) W (Nat.le_refl _) (by omega) (by omega))
      have hsr : (strOf (rsnL K)).size ≤ 30 := by rw [strOf_size]; exact rsn_len K
      have hsd : (decB K.toNat).size ≤ 6 := decB_size K.toNat (by obtain ⟨x, hx, hx6⟩ := cds_nat HM.out; omega)
      have eLS := (led_eq K).trans (led_str K)
      have hLS : (strOf (ledL K)).size = (ledL K).length := strOf_size _
      have hLSX := Bx.mk (ext_take (ledL K))
      have HLB := Bx.mk (led_byt K)
      generalize strOf (rsnL K) = S at *
      generalize decB K.toNat = D at *
      have hs2 : ((⟨#[72, 84, 84, 80, 47, 49, 46, 49, 32]⟩ : ByteArray) ++ D).size ≤ 15 := by rw [size_append]; show 9 + _ ≤ _; omega
      have hs3 : (((⟨#[72, 84, 84, 80, 47, 49, 46, 49, 32]⟩ : ByteArray) ++ D) ++ ⟨#[32]⟩).size ≤ 16 := by rw [size_append]; show _ + 1 ≤ _; omega
      have hs4 : ((((⟨#[72, 84, 84, 80, 47, 49, 46, 49, 32]⟩ : ByteArray) ++ D) ++ ⟨#[32]⟩) ++ S).size ≤ 50 := by rw [size_append]; omega
      have c1 : ¬ 9223372036854775807 < 9 + D.size := by omega
      have c2 : ¬ 9223372036854775807 < 9 + D.size + 1 := by omega
      have c3 : ¬ 9223372036854775807 < 9 + D.size + 1 + S.size := by omega
      have c4 : ¬ 9223372036854775807 < 9 + D.size + 1 + S.size + 18 := by omega
      go_wp2_with fail
      go_quiet (first | (go_at_call 23; exact Calls.quiet_of_same (HDC.out _)) | (go_at_call 13; exact Calls.quiet_of_same (HRS.out _)))
      have HBQ := Bx.mk (below_drewN HBW.out nq)
      have HCQ : Bx (Cds (wr.drewN nq) g) := ⟨HCW.out⟩
      have HBB := Bx.mk (HB.out.below HBQ.out)
      clear hck HCW HBW eLS hs2 hs3 hs4 c1 c2 c3 c4 HRS HDC hsr hsd
      generalize wr.drewN nq = wq at *
      generalize ((((⟨#[72, 84, 84, 80, 47, 49, 46, 49, 32]⟩ : ByteArray) ++ D) ++ ⟨#[32]⟩) ++ S) = X4
      generalize (((⟨#[72, 84, 84, 80, 47, 49, 46, 49, 32]⟩ : ByteArray) ++ D) ++ ⟨#[32]⟩) = X3
      generalize ((⟨#[72, 84, 84, 80, 47, 49, 46, 49, 32]⟩ : ByteArray) ++ D) = X2
      rw [← hLS] at HR
      have HCM2 := Bx.mk (fun (z : List Int) (hz : Byt z) => str_eq hz HLB.out)
      generalize hLSe : strOf (ledL K) = LS at *
      have HLX : Bx ((ledL K).length = LS.size) := ⟨hLS.symm⟩
      clear hLSe hLS
      by_cases hle : n ≤ LS.size
      · rw [if_pos (by rw [HLL.out]; exact hle), HLL.out] at HR
        by_cases hlt2 : n < LS.size
        · have g1 : (n : Int) < (LS.size : Int) := by omega
          cases sh with
          | true =>
            have HRX : Bx (raF l (cdsL.drop (k + 1)) true = raR l) := ⟨by rw [← HR.out, Bool.true_or]⟩
            go_wp2_with fail
            go_quiet (fail)
            have HBX := Bx.mk (below_drewN HBQ.out nq)
            have HCX : Bx (Cds (wq.drewN nq) g) := ⟨HCQ.out⟩
            generalize wq.drewN nq = wx at *
            go_wp2
            go_roundw
            case rel => exact ⟨k + 1, true, by omega, by go_num, rfl, HBX, HCX, HRX⟩
            case measure => simp [intOf]; omega
          | false =>
            rw [Bool.false_or] at HR
            have hcv : (convert 22 9 (.slice a n c)).run Tryz.prog wq = .ok (.string (strOf l)) wq := HBB.out.str
            have hcvd : (convert 22 9 (.slice a n c)).run Tryz.prog wq.drew = .ok (.string (strOf l)) wq.drew := (HBB.out.drewN 1).str
            have hex := hLSX.out n
            have hcm := str_eq (HLB.out.take n) HBY.out
            have gn : (n : Int) ≤ (LS.size : Int) := by omega
            have gn0 : (0 : Int) ≤ (n : Int) := by omega
            have HBX := Bx.mk (below_drewN HBQ.out 1)
            have HCX : Bx (Cds (wq.drewN 1) g) := ⟨HCQ.out⟩
            generalize strOf l = SB at *
            generalize strOf ((ledL K).take n) = SL at *
            by_cases heq : (ledL K).take n = l
            · rw [decide_eq_true heq] at hcm HR
              have HRX := HR
              clear heq HR
              go_wp2_with fail
              go_region_held3 (fun W => (convert 22 9 (.slice a n c)).run Tryz.prog W = .ok (.string SB) W) (assumption) (fail)
              clear hcv hcvd
              go_wp2
              go_roundw
              case rel => exact ⟨k + 1, true, by omega, by go_num, rfl, HBX, HCX, HRX⟩
              case measure => simp [intOf]; omega
            · rw [decide_eq_false heq] at hcm HR
              have HRX := HR
              clear heq HR
              go_wp2_with fail
              go_region_held3 (fun W => (convert 22 9 (.slice a n c)).run Tryz.prog W = .ok (.string SB) W) (assumption) (fail)
              clear hcv hcvd
              go_wp2
              go_roundw
              case rel => exact ⟨k + 1, false, by omega, by go_num, rfl, HBX, HCX, HRX⟩
              case measure => simp [intOf]; omega
        · have g1 : ¬ (n : Int) < (LS.size : Int) := by omega
          have g2 : ((n : Int) == (LS.size : Int)) = true := by simp; omega
          cases sh with
          | true =>
            have HRX : Bx (raF l (cdsL.drop (k + 1)) true = raR l) := ⟨by rw [← HR.out, Bool.true_or]⟩
            go_wp2_with fail
            go_quiet (fail)
            have HBX := Bx.mk (below_drewN HBQ.out nq)
            have HCX : Bx (Cds (wq.drewN nq) g) := ⟨HCQ.out⟩
            generalize wq.drewN nq = wx at *
            go_wp2
            go_roundw
            case rel => exact ⟨k + 1, true, by omega, by go_num, rfl, HBX, HCX, HRX⟩
            case measure => simp [intOf]; omega
          | false =>
            rw [Bool.false_or] at HR
            have hcv : (convert 22 9 (.slice a n c)).run Tryz.prog wq = .ok (.string (strOf l)) wq := HBB.out.str
            have hcvd : (convert 22 9 (.slice a n c)).run Tryz.prog wq.drew = .ok (.string (strOf l)) wq.drew := (HBB.out.drewN 1).str
            have hex := hLSX.out n
            have hcm := str_eq (HLB.out.take n) HBY.out
            have gn : (n : Int) ≤ (LS.size : Int) := by omega
            have gn0 : (0 : Int) ≤ (n : Int) := by omega
            have HBX := Bx.mk (below_drewN HBQ.out 1)
            have HCX : Bx (Cds (wq.drewN 1) g) := ⟨HCQ.out⟩
            generalize strOf l = SB at *
            generalize strOf ((ledL K).take n) = SL at *
            by_cases heq : (ledL K).take n = l
            · rw [decide_eq_true heq] at hcm HR
              have HRX := HR
              clear heq HR
              go_wp2_with fail
              go_region_held3 (fun W => (convert 22 9 (.slice a n c)).run Tryz.prog W = .ok (.string SB) W) (assumption) (fail)
              clear hcv hcvd
              go_wp2
              go_roundw
              case rel => exact ⟨k + 1, true, by omega, by go_num, rfl, HBX, HCX, HRX⟩
              case measure => simp [intOf]; omega
            · rw [decide_eq_false heq] at hcm HR
              have HRX := HR
              clear heq HR
              go_wp2_with fail
              go_region_held3 (fun W => (convert 22 9 (.slice a n c)).run Tryz.prog W = .ok (.string SB) W) (assumption) (fail)
              clear hcv hcvd
              go_wp2
              go_roundw
              case rel => exact ⟨k + 1, false, by omega, by go_num, rfl, HBX, HCX, HRX⟩
              case measure => simp [intOf]; omega
      · rw [if_neg (by rw [HLL.out]; exact hle)] at HR
        have g1 : ¬ (n : Int) < (LS.size : Int) := by omega
        have g2 : ((n : Int) == (LS.size : Int)) = false := by simp; omega
        have hcv := (HBB.out.cutl LS.size (by omega)).str
        have hcm := HCM2.out (l.take LS.size) (HBY.out.take _)
        have q1 : (LS.size : Int) ≤ (c : Int) := by have := HB.out.le_cap; omega
        have q2 : (0 : Int) ≤ (LS.size : Int) := by omega
        by_cases heq : l.take LS.size = ledL K
        · rw [if_neg (fun h => h heq)] at HR
          rw [decide_eq_true heq] at hcm
          have hcn : ((strOf (l.take LS.size)).toList != LS.toList) = false := by rw [bne, hcm]; rfl
          have HCN := Bx.mk (rcounted_any (slA a LS.size c) (n - LS.size) (c - LS.size) (l.drop LS.size) wq (HBB.out.rest LS.size (by omega)) (by omega))
          have hsl := fun W => run_sl_l a n c LS.size (LS.size : Int) rfl (by omega) W
          generalize strOf (l.take LS.size) = SB at *
          have hcl : (cntR (l.drop LS.size)).2.1 ≤ 1000000 := by have := cntR_le (l.drop LS.size); rw [List.length_drop, HLL.out] at this; omega
          generalize cntR (l.drop LS.size) = T at *
          obtain ⟨T1, T2, T3⟩ := T
          simp only at HR hcl
          generalize slA a LS.size c = A1 at *
          generalize n - LS.size = N1 at *
          generalize c - LS.size = C1 at *
          have hsz : LS.size ≤ 1000000 := by omega
          clear heq hle
          go_wp2_with fail
          refine HCN.out.mono ?_
          rintro e w2 ⟨hb2, a2, c2, rfl, hbt2⟩
          have HB2 := Bx.mk (HBQ.out.trans (hb2.mono HBQ.out.size))
          have HBT2 := Bx.mk hbt2
          have hck := (HCQ.out.below hb2).2 k hlt
          rw [HKE.out] at hck
          simp only
          clear hb2 hbt2 hcv
          by_cases hz : T3 = 0
          · rw [if_neg (fun h => h hz)] at HR
            have gz : (T3 != 0) = false := by simp [hz]
            have HF : Bx (raR l = (K, T1, LS.size + T2, 0)) := ⟨by rw [← HR.out]⟩
            have HZ := Bx.mk hz
            clear hz HR
            generalize hTL : T1.length = TL at *
            have HTL := Bx.mk hTL
            clear hTL
            have HSM : Bx ((LS.size : Int) + (T2 : Int) = ((LS.size + T2 : Nat) : Int)) := ⟨by omega⟩
            go_wp2
            (try simp only [Exit.inBlock, Exit.then])
            refine bodyPost_ret (results_tmp4 rfl _ _ _) rfl ?_
            exact ⟨HB2.out, a2, c2, by rw [HF.out]; show _ = Ending.returned (.tuple #[.int .i64 K, .slice a2 T1.length c2, .int .i64 ((LS.size + T2 : Nat) : Int), .int .i64 0]); rw [HTL.out, ← HSM.out]; rfl, by rw [HF.out]; show Bts _ _ T1.length _ _; rw [HTL.out]; exact HBT2.out⟩
          · rw [if_pos hz] at HR
            have gz : (T3 != 0) = true := by simp [hz]
            have HF : Bx (raR l = (0, [], 0, T3)) := ⟨by rw [← HR.out]⟩
            clear hz HR
            generalize T1.length = TL at *
            go_wp2
            (try simp only [Exit.inBlock, Exit.then])
            refine bodyPost_ret (results_tmp4 rfl _ _ _) rfl ?_
            exact RaP.none HF.out HB2.out rfl
        · rw [if_pos heq] at HR
          rw [decide_eq_false heq] at hcm
          have hcn : ((strOf (l.take LS.size)).toList != LS.toList) = true := by rw [bne, hcm]; rfl
          have HRX := HR
          generalize strOf (l.take LS.size) = SB at *
          clear heq hle HR
          go_wp2
          go_roundw
          case rel => exact ⟨k + 1, sh, by omega, by go_num, rfl, HBQ, HCQ, HRX⟩
          case measure => simp [intOf]; omega
    · have hge : ¬ (k : Int) < 12 := by omega
      rw [show cdsL.drop k = [] from List.drop_of_length_le (show cdsL.length ≤ k by show 12 ≤ k; omega), raF_nil] at HR
      cases sh with
      | true =>
        have HF : Bx (raR l = (0, [], 0, 3)) := ⟨by rw [← HR.out, if_pos rfl]⟩
        go_wp2
        (try simp only [Exit.inBlock, Exit.then])
        refine bodyPost_ret (results_tmp4 rfl _ _ _) rfl ?_
        exact RaP.none HF.out HBW.out rfl
      | false =>
        have HF : Bx (raR l = (0, [], 0, 4)) := ⟨by rw [← HR.out, if_neg (by decide)]⟩
        go_wp2
        (try simp only [Exit.inBlock, Exit.then])
        refine bodyPost_ret (results_tmp4 rfl _ _ _) rfl ?_
        exact RaP.none HF.out HBW.out rfl
end Go.Proofs.YtdameoejigpnhabGreatDoor
