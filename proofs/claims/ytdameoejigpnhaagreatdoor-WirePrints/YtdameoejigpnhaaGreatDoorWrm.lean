/- Small letters and names of lines, as the document reads them. Where a line's name ends, as the document reads it. A line of a head, as the document reads it. -/
import Derived.Test.YtdameoejigpnhaaGreatDoorWrk
namespace Go.Proofs.YtdameoejigpnhaaGreatDoor
open Go.RowKit
set_option linter.unusedVariables false

set_option maxRecDepth 100000 in
theorem take_map_snoc (l : List Int) (k : Nat) (h : k < l.length) : (l.take (k + 1)).map lowB = (l.take k).map lowB ++ [lowB (l.getD k 0)] := by rw [take_succ_getD l k h, List.map_append]; rfl
set_option maxRecDepth 100000 in
set_option maxHeartbeats 1000000 in
theorem rsmall_any (l : List Int) (w : World) (hl : Byt l) (hs : l.length ≤ 1000000) : Calls Tryz.prog 42 #[.string (strOf l)] w fun e w' => e = .returned (.string (strOf (l.map lowB))) ∧ Below w.heap.size w w' := by
  have HL := Bx.mk hl
  have HSB : Bx (∀ i, i < l.length → sb (strOf l) i = l.getD i 0) := ⟨fun i hi => sb_strOf hl i hi⟩
  have hsz0 : (strOf l).size = l.length := strOf_size l
  generalize hS : strOf l = s at hsz0 HSB
  have HZ := Bx.mk hsz0
  have hsm : s.size ≤ 1000000 := by omega
  clear hS hl hsz0
  go_enter Tryz.func42, Tryz.ntmps42
  go_wp2_with fail
  go_loopw [3, 4] (fun so i wr => ∃ (k : Nat), k ≤ s.size ∧ i = .int .i64 k ∧ so = .string (strOf ((l.take k).map lowB)) ∧ Bx (Below w.heap.size w wr)) (fun _ i _ => s.size - (intOf i).toNat)
  case atStart => exact ⟨0, Nat.zero_le _, rfl, rfl, ⟨Below.refl _ _⟩⟩
  case round =>
    obtain ⟨k, hk, rfl, rfl, HB⟩ := hrel
    by_cases hlt : k < s.size
    · have hkI : (k : Int) < (s.size : Int) := by omega
      have hin : (((s[k]'hlt).toNat : Nat) : Int) = sb s k := sb_eq s k hlt
      have HC : Bx (sb s k = l.getD k 0) := ⟨HSB.out k (by have := HZ.out; omega)⟩
      have hbd : 0 ≤ sb s k ∧ sb s k ≤ 255 := sb_byt s k
      generalize sb s k = C at hin HC hbd
      have HN : Bx ((l.take (k + 1)).map lowB = (l.take k).map lowB ++ [lowB C]) := ⟨by rw [HC.out]; exact take_map_snoc l k (by have := HZ.out; omega)⟩
      have hSz : (strOf ((l.take k).map lowB)).size ≤ 1000000 := by rw [strOf_size, List.length_map, List.length_take]; omega
      have HLW : Bx (lowB C = if 65 ≤ C ∧ C ≤ 90 then C + 32 else C) := ⟨rfl⟩
      have hlb : 0 ≤ lowB C ∧ lowB C ≤ 255 := by unfold lowB; split <;> omega
      generalize lowB C = D at *
      have hcv : (convert 22 9 (.slice (some ⟨wr.heap.size, 0, none⟩) 1 1)).run Tryz.prog (wr.alloc (.cells #[.int .u8 D] 5)) = .ok (.string (strOf [D])) (wr.alloc (.cells #[.int .u8 D] 5)) := (bts_const wr [D] (Byt.cons hlb Byt.nil) (0, 0) (by show 1 ≤ maxLen; decide)).str
      have hT1 : (strOf [D]).size = 1 := strOf_size _
      have HJ : Bx (strOf ((l.take k).map lowB) ++ strOf [D] = strOf ((l.take (k + 1)).map lowB)) := ⟨by rw [HN.out, strOf_append]⟩
      have HBN : Bx (Below w.heap.size w (wr.alloc (.cells #[.int .u8 D] 5))) := ⟨HB.out.alloc HB.out.size _⟩
      generalize strOf ((l.take k).map lowB) = A at *
      generalize strOf [D] = T at *
      clear HN
      by_cases h65 : 65 ≤ C
      · by_cases h90 : C ≤ 90
        · have hD : C + 32 = D := by rw [HLW.out, if_pos ⟨h65, h90⟩]
          have g65 : C ≥ 65 := h65
          clear HLW h65
          go_wp2
          go_roundw
          case rel => exact ⟨k + 1, by omega, by go_num, by rw [HJ.out], HBN⟩
          case measure => simp [intOf]; omega
        · have hD : C = D := by rw [HLW.out, if_neg (fun h => h90 h.2)]
          have g65 : C ≥ 65 := h65
          subst hD
          clear HLW h65
          go_wp2
          go_roundw
          case rel => exact ⟨k + 1, by omega, by go_num, by rw [HJ.out], HBN⟩
          case measure => simp [intOf]; omega
      · have hD : C = D := by rw [HLW.out, if_neg (fun h => h65 h.1)]
        subst hD
        clear HLW
        go_wp2
        go_roundw
        case rel => exact ⟨k + 1, by omega, by go_num, by rw [HJ.out], HBN⟩
        case measure => simp [intOf]; omega
    · have hge : ¬ (k : Int) < (s.size : Int) := by omega
      have HT : Bx ((l.take k).map lowB = l.map lowB) := ⟨by rw [List.take_of_length_le (by have := HZ.out; omega)]⟩
      rw [HT.out]
      go_wp2
      go_ret
      exact ⟨rfl, HB.out⟩
end Go.Proofs.YtdameoejigpnhaaGreatDoor
namespace Go.Proofs.YtdameoejigpnhaaGreatDoor
open Go.RowKit
set_option linter.unusedVariables false

set_option maxRecDepth 100000 in
theorem one_less (D : Int) (hD : 0 ≤ D ∧ D ≤ 255) : Op.bytesLess (strOf [D]).toList [97] = decide (D < 97) ∧ Op.bytesLess (strOf [D]).toList [122] = decide (D < 122) ∧ ((strOf [D]).toList == [45]) = decide (D = 45) ∧ ((strOf [D]).toList == [122]) = decide (D = 122) := by
  rw [Lib.toList_data]
  obtain ⟨n, rfl⟩ : ∃ n : Nat, D = (n : Int) := ⟨D.toNat, by omega⟩
  have hn : n < 256 := by omega
  clear hD
  revert n
  decide +kernel
def nmV (l : List Int) : Int := match namI l with | none => -1 | some i => (i : Int)
set_option maxRecDepth 100000 in
theorem colI_end : ∀ (l : List Int) (k : Nat), k ≤ l.length → (∀ j, j < k → l.getD j 0 ≠ 58) → (k = l.length ∨ l.getD k 0 = 58) → colI l = k
  | [], k, hk, _, _ => by
    have : k = 0 := by simpa using hk
    subst this; rfl
  | c :: r, 0, _, _, h => by
    rcases h with h | h
    · simp at h
    · unfold colI; rw [if_pos (by simpa using h)]
  | c :: r, k + 1, hk, h1, h => by
    have h0 := h1 0 (by omega)
    unfold colI
    rw [if_neg (by simpa using h0), colI_end r k (by simpa using hk) (fun j hj => by have := h1 (j + 1) (by omega); simpa using this) (by simpa using h)]
set_option maxRecDepth 100000 in
set_option maxHeartbeats 2000000 in
theorem rnamed_any (l : List Int) (w : World) (hl : Byt l) (hs : l.length ≤ 1000000) : Calls Tryz.prog 41 #[.string (strOf l)] w fun e w' => e = .returned (.int .i64 (nmV l)) ∧ Below w.heap.size w w' := by
  have HL := Bx.mk hl
  have HSB : Bx (∀ i, i < l.length → sb (strOf l) i = l.getD i 0) := ⟨fun i hi => sb_strOf hl i hi⟩
  have HEX : Bx (∀ k, k < l.length → (strOf l).extract k (k + 1) = strOf [l.getD k 0]) := ⟨fun k hk => by
    apply ba_ext
    rw [Lib.extract_data, strOf_data, strOf_data, Nat.add_sub_cancel_left, ← List.map_drop, drop_head l k hk]; rfl⟩
  have hsz0 : (strOf l).size = l.length := strOf_size l
  generalize hS : strOf l = s at hsz0 HSB HEX
  have HZ := Bx.mk hsz0
  have hsm : s.size ≤ 1000000 := by omega
  clear hS hl hsz0
  go_enter Tryz.func41, Tryz.ntmps41
  go_wp2_with fail
  go_loopw [3] (fun i wr => ∃ (k : Nat), k ≤ s.size ∧ i = .int .i64 k ∧ Bx ((∀ j, j < k → l.getD j 0 ≠ 58) ∧ (∀ j, j < k → letB (l.getD j 0) = true)) ∧ Bx (Below w.heap.size w wr)) (fun i _ => s.size - (intOf i).toNat)
  case atStart => exact ⟨0, Nat.zero_le _, rfl, ⟨fun j hj => by omega, fun j hj => by omega⟩, ⟨Below.refl _ _⟩⟩
  case round =>
    obtain ⟨k, hk, rfl, HJ, HB⟩ := hrel
    by_cases hlt : k < s.size
    · have hkI : (k : Int) < (s.size : Int) := by omega
      have hin : (((s[k]'hlt).toNat : Nat) : Int) = sb s k := sb_eq s k hlt
      have HC : Bx (sb s k = l.getD k 0) := ⟨HSB.out k (by have := HZ.out; omega)⟩
      have hbd : 0 ≤ sb s k ∧ sb s k ≤ 255 := sb_byt s k
      have hex : s.extract k (k + 1) = strOf [sb s k] := by rw [HC.out]; exact HEX.out k (by have := HZ.out; omega)
      have C1 : Hid (∀ W, Calls Tryz.prog 42 #[.string (strOf [sb s k])] W fun e w' => e = .returned (.string (strOf [lowB (sb s k)])) ∧ Below W.heap.size W w') := fun W => rsmall_any [sb s k] W (Byt.cons hbd Byt.nil) (by simp)
      generalize sb s k = C at *
      by_cases h58 : C = 58
      · have g58 : (C != 58) = false := by simp [h58]
        have HCOL : Bx (colI l = k) := ⟨colI_end l k (by have := HZ.out; omega) HJ.out.1 (.inr (by rw [← HC.out]; exact h58))⟩
        clear h58 hex C1
        have HALL : Bx ((l.take (colI l)).all letB = true) := ⟨by
          rw [HCOL.out, List.all_eq_true]
          intro c hc
          obtain ⟨j, hj⟩ := List.mem_iff_getElem?.1 hc
          rw [List.getElem?_take] at hj
          by_cases h : j < k
          · rw [if_pos h] at hj
            have := HJ.out.2 j h
            rwa [List.getD_eq_getElem?_getD, hj] at this
          · rw [if_neg h] at hj; cases hj⟩
        have HNV : Bx (nmV l = if 1 ≤ k ∧ k ≤ 32 ∧ k + 1 < l.length ∧ l.getD (k + 1) 0 = 32 then (k : Int) else -1) := ⟨by
          unfold nmV namI
          rw [HCOL.out] at HALL ⊢
          by_cases h : 1 ≤ k ∧ k ≤ 32 ∧ k + 1 < l.length ∧ l.getD (k + 1) 0 = 32
          · rw [if_pos ⟨HALL.out, h⟩, if_pos h]
          · rw [if_neg (fun hh => h hh.2), if_neg h]⟩
        by_cases t1 : 1 ≤ k
        · have u1 : ¬ (k : Int) < 1 := by omega
          by_cases t2 : k ≤ 32
          · have u2 : ¬ (32 : Int) < (k : Int) := by omega
            by_cases t3 : k + 1 < s.size
            · have u3 : ¬ (s.size : Int) ≤ (k : Int) + 1 := by omega
              have hin2 : (((s[k + 1]'t3).toNat : Nat) : Int) = sb s (k + 1) := sb_eq s (k + 1) t3
              have HC2 : Bx (sb s (k + 1) = l.getD (k + 1) 0) := ⟨HSB.out (k + 1) (by have := HZ.out; omega)⟩
              generalize sb s (k + 1) = C2 at hin2 HC2
              by_cases t4 : C2 = 32
              · have u4 : (C2 != 32) = false := by simp [t4]
                have HR : Bx (nmV l = (k : Int)) := ⟨by rw [HNV.out, if_pos ⟨t1, t2, by have := HZ.out; omega, by rw [← HC2.out]; exact t4⟩]⟩
                clear t4 HNV
                go_wp2
                go_ret
                exact ⟨by rw [HR.out]; rfl, HB.out⟩
              · have u4 : (C2 != 32) = true := by simp [t4]
                have HR : Bx (nmV l = -1) := ⟨by rw [HNV.out, if_neg (fun h => t4 (by rw [HC2.out]; exact h.2.2.2))]⟩
                clear t4 HNV
                go_wp2
                go_ret
                exact ⟨by rw [HR.out]; rfl, HB.out⟩
            · have u3 : (s.size : Int) ≤ (k : Int) + 1 := by omega
              have HR : Bx (nmV l = -1) := ⟨by rw [HNV.out, if_neg (fun h => t3 (by have := h.2.2.1; have := HZ.out; omega))]⟩
              clear HNV
              go_wp2
              go_ret
              exact ⟨by rw [HR.out]; rfl, HB.out⟩
          · have u2 : (32 : Int) < (k : Int) := by omega
            have HR : Bx (nmV l = -1) := ⟨by rw [HNV.out, if_neg (fun h => t2 h.2.1)]⟩
            clear HNV
            go_wp2
            go_ret
            exact ⟨by rw [HR.out]; rfl, HB.out⟩
        · have u1 : (k : Int) < 1 := by omega
          have HR : Bx (nmV l = -1) := ⟨by rw [HNV.out, if_neg (fun h => t1 h.1)]⟩
          clear HNV
          go_wp2
          go_ret
          exact ⟨by rw [HR.out]; rfl, HB.out⟩
      · have g58 : (C != 58) = true := by simp [h58]
        have HJ1 : Bx (∀ j, j < k + 1 → l.getD j 0 ≠ 58) := ⟨fun j hj => by
          by_cases e : j = k
          · rw [e, ← HC.out]; exact h58
          · exact HJ.out.1 j (by omega)⟩
        have hlb : 0 ≤ lowB C ∧ lowB C ≤ 255 := by unfold lowB; split <;> omega
        obtain ⟨q1, q2, q3, q4⟩ := one_less (lowB C) hlb
        have HLB : Bx (letB C = (decide (lowB C = 45) || (decide (97 ≤ lowB C) && decide (lowB C ≤ 122)))) := ⟨rfl⟩
        generalize lowB C = D at *
        have kb : (k : Int) + 1 ≤ (s.size : Int) := by omega
        have HYES : ∀ (_ : letB C = true), Bx ((∀ j, j < k + 1 → l.getD j 0 ≠ 58) ∧ (∀ j, j < k + 1 → letB (l.getD j 0) = true)) := fun h => ⟨HJ1.out, all_step HJ.out.2 (by rw [← HC.out]; exact h)⟩
        have HNO : ∀ (_ : letB C = false), Bx (nmV l = -1) := fun h => ⟨by
          have hc : k < colI l := by
            by_cases hh : k < colI l
            · exact hh
            · have hle := colI_le l
              by_cases h2 : colI l < l.length
              · exact absurd (colI_at l h2) (HJ1.out _ (by omega))
              · have := HZ.out; omega
          have : namI l = none := by
            unfold namI
            rw [if_neg]
            rintro ⟨ha, _⟩
            rw [List.all_eq_true] at ha
            have := ha (l.getD k 0) (by
              rw [List.mem_iff_getElem?]
              refine ⟨k, ?_⟩
              rw [List.getElem?_take, if_pos hc, List.getD_eq_getElem?_getD, List.getElem?_eq_getElem (by have := HZ.out; omega)]; rfl)
            rw [← HC.out, h] at this; cases this
          unfold nmV; rw [this]⟩
        have HYES' := Bx.mk HYES
        have HNO' := Bx.mk HNO
        clear HYES HNO h58
        have HEXK := Bx.mk hex
        clear hex
        generalize strOf [D] = TD at *
        by_cases d45 : D = 45
        · have p3 : (TD.toList == [45]) = true := by rw [q3, decide_eq_true d45]
          have HY := HYES'.out (by rw [HLB.out, decide_eq_true d45]; rfl)
          clear q1 q2 q3 q4 HLB d45
          go_wp2_with fail
          rw [HEXK.out]
          refine (C1.out _).mono ?_
          rintro e w2 ⟨rfl, hb2⟩
          have HB2 := Bx.mk (bstep HB.out hb2)
          clear hb2
          go_wp2
          go_roundw
          case rel => exact ⟨k + 1, by omega, by go_num, HY, HB2⟩
          case measure => simp [intOf]; omega
        · have p3 : (TD.toList == [45]) = false := by rw [q3, decide_eq_false d45]
          by_cases d97 : D < 97
          · have p1 : Op.bytesLess TD.toList [97] = true := by rw [q1, decide_eq_true d97]
            have HN := HNO'.out (by rw [HLB.out, decide_eq_false d45]; simp; omega)
            clear q1 q2 q3 q4 HLB d45
            go_wp2_with fail
            rw [HEXK.out]
            refine (C1.out _).mono ?_
            rintro e w2 ⟨rfl, hb2⟩
            have HB2 := Bx.mk (bstep HB.out hb2)
            clear hb2
            go_wp2
            go_ret
            exact ⟨by rw [HN.out]; rfl, HB2.out⟩
          · have p1 : Op.bytesLess TD.toList [97] = false := by rw [q1, decide_eq_false d97]
            by_cases d122 : 122 < D
            · have p2 : Op.bytesLess TD.toList [122] = false := by rw [q2, decide_eq_false (by omega)]
              have p4 : (TD.toList == [122]) = false := by rw [q4, decide_eq_false (by omega)]
              have HN := HNO'.out (by rw [HLB.out, decide_eq_false d45]; simp; omega)
              clear q1 q2 q3 q4 HLB d45
              go_wp2_with fail
              rw [HEXK.out]
              refine (C1.out _).mono ?_
              rintro e w2 ⟨rfl, hb2⟩
              have HB2 := Bx.mk (bstep HB.out hb2)
              clear hb2
              go_wp2
              go_ret
              exact ⟨by rw [HN.out]; rfl, HB2.out⟩
            · have HY := HYES'.out (by rw [HLB.out]; simp; omega)
              by_cases e122 : D = 122
              · have p2 : Op.bytesLess TD.toList [122] = false := by rw [q2, decide_eq_false (by omega)]
                have p4 : (TD.toList == [122]) = true := by rw [q4, decide_eq_true e122]
                clear q1 q2 q3 q4 HLB d45 e122
                go_wp2_with fail
                rw [HEXK.out]
                refine (C1.out _).mono ?_
                rintro e w2 ⟨rfl, hb2⟩
                have HB2 := Bx.mk (bstep HB.out hb2)
                clear hb2
                go_wp2
                go_roundw
                case rel => exact ⟨k + 1, by omega, by go_num, HY, HB2⟩
                case measure => simp [intOf]; omega
              · have p2 : Op.bytesLess TD.toList [122] = true := by rw [q2, decide_eq_true (by omega)]
                have p4 : (TD.toList == [122]) = false := by rw [q4, decide_eq_false e122]
                clear q1 q2 q3 q4 HLB d45 e122
                go_wp2_with fail
                rw [HEXK.out]
                refine (C1.out _).mono ?_
                rintro e w2 ⟨rfl, hb2⟩
                have HB2 := Bx.mk (bstep HB.out hb2)
                clear hb2
                go_wp2
                go_roundw
                case rel => exact ⟨k + 1, by omega, by go_num, HY, HB2⟩
                case measure => simp [intOf]; omega
    · have hge : ¬ (k : Int) < (s.size : Int) := by omega
      have HCOL : Bx (colI l = k) := ⟨colI_end l k (by have := HZ.out; omega) HJ.out.1 (.inl (by have := HZ.out; omega))⟩
      have HALL : Bx ((l.take (colI l)).all letB = true) := ⟨by
        rw [HCOL.out, List.all_eq_true]
        intro c hc
        obtain ⟨j, hj⟩ := List.mem_iff_getElem?.1 hc
        rw [List.getElem?_take] at hj
        by_cases h : j < k
        · rw [if_pos h] at hj
          have := HJ.out.2 j h
          rwa [List.getD_eq_getElem?_getD, hj] at this
        · rw [if_neg h] at hj; cases hj⟩
      have HNV : Bx (nmV l = if 1 ≤ k ∧ k ≤ 32 ∧ k + 1 < l.length ∧ l.getD (k + 1) 0 = 32 then (k : Int) else -1) := ⟨by
        unfold nmV namI
        rw [HCOL.out] at HALL ⊢
        by_cases h : 1 ≤ k ∧ k ≤ 32 ∧ k + 1 < l.length ∧ l.getD (k + 1) 0 = 32
        · rw [if_pos ⟨HALL.out, h⟩, if_pos h]
        · rw [if_neg (fun hh => h hh.2), if_neg h]⟩
      by_cases t1 : 1 ≤ k
      · have u1 : ¬ (k : Int) < 1 := by omega
        by_cases t2 : k ≤ 32
        · have u2 : ¬ (32 : Int) < (k : Int) := by omega
          by_cases t3 : k + 1 < s.size
          · have u3 : ¬ (s.size : Int) ≤ (k : Int) + 1 := by omega
            have hin2 : (((s[k + 1]'t3).toNat : Nat) : Int) = sb s (k + 1) := sb_eq s (k + 1) t3
            have HC2 : Bx (sb s (k + 1) = l.getD (k + 1) 0) := ⟨HSB.out (k + 1) (by have := HZ.out; omega)⟩
            generalize sb s (k + 1) = C2 at hin2 HC2
            by_cases t4 : C2 = 32
            · have u4 : (C2 != 32) = false := by simp [t4]
              have HR : Bx (nmV l = (k : Int)) := ⟨by rw [HNV.out, if_pos ⟨t1, t2, by have := HZ.out; omega, by rw [← HC2.out]; exact t4⟩]⟩
              clear t4 HNV
              go_wp2
              go_ret
              exact ⟨by rw [HR.out]; rfl, HB.out⟩
            · have u4 : (C2 != 32) = true := by simp [t4]
              have HR : Bx (nmV l = -1) := ⟨by rw [HNV.out, if_neg (fun h => t4 (by rw [HC2.out]; exact h.2.2.2))]⟩
              clear t4 HNV
              go_wp2
              go_ret
              exact ⟨by rw [HR.out]; rfl, HB.out⟩
          · have u3 : (s.size : Int) ≤ (k : Int) + 1 := by omega
            have HR : Bx (nmV l = -1) := ⟨by rw [HNV.out, if_neg (fun h => t3 (by have := h.2.2.1; have := HZ.out; omega))]⟩
            clear HNV
            go_wp2
            go_ret
            exact ⟨by rw [HR.out]; rfl, HB.out⟩
        · have u2 : (32 : Int) < (k : Int) := by omega
          have HR : Bx (nmV l = -1) := ⟨by rw [HNV.out, if_neg (fun h => t2 h.2.1)]⟩
          clear HNV
          go_wp2
          go_ret
          exact ⟨by rw [HR.out]; rfl, HB.out⟩
      · have u1 : (k : Int) < 1 := by omega
        have HR : Bx (nmV l = -1) := ⟨by rw [HNV.out, if_neg (fun h => t1 h.1)]⟩
        clear HNV
        go_wp2
        go_ret
        exact ⟨by rw [HR.out]; rfl, HB.out⟩
end Go.Proofs.YtdameoejigpnhaaGreatDoor
namespace Go.Proofs.YtdameoejigpnhaaGreatDoor
open Go.RowKit
set_option linter.unusedVariables false

def lnT (b : List Int) (p : Nat) : List Int × Nat × Int := lnR b p (b.length + 1 - p) p
set_option maxRecDepth 100000 in
theorem lnR_step (b : List Int) (p k : Nat) (hk : k < b.length) : lnR b p (b.length + 1 - k) k = if 1024 ≤ k then ([], 0, 5) else
    if (p < k ∧ b.getD (k - 1) 0 = 13) ∧ b.getD k 0 = 10 then ((b.drop p).take (k - 1 - p), k + 1 - p, 0) else
    if (p < k ∧ b.getD (k - 1) 0 = 13) ∨ b.getD k 0 = 10 ∨ (b.getD k 0 ≠ 13 ∧ (b.getD k 0 < 32 ∨ 127 ≤ b.getD k 0)) then ([], 0, 4) else lnR b p (b.length + 1 - (k + 1)) (k + 1) := by
  rw [show b.length + 1 - k = (b.length + 1 - (k + 1)) + 1 from by omega]
  conv => lhs; unfold lnR
  rw [if_neg (by omega)]
set_option maxRecDepth 100000 in
theorem lnR_over (b : List Int) (p k : Nat) (hk : b.length ≤ k) (hk2 : k ≤ b.length) : lnR b p (b.length + 1 - k) k = ([], 0, 3) := by
  rw [show b.length + 1 - k = 0 + 1 from by omega]
  unfold lnR
  rw [if_pos hk]
set_option maxRecDepth 100000 in
set_option maxHeartbeats 2000000 in
theorem rline_any (a : Option Addr) (len cap : Nat) (l : List Int) (p : Nat) (w : World) (h : Bts w a len cap l) (hp : p ≤ len) (hs : len ≤ 1000000) :
    Calls Tryz.prog 26 #[.slice a len cap, .int .i64 (p : Int)] w fun e w' => e = .returned (.tuple #[.string (strOf (lnT l p).1), .int .i64 ((lnT l p).2.1 : Int), .int .i64 (lnT l p).2.2]) ∧ w = w' := by
  have hl : Hid (l.length = len) := h.len_eq
  have HBY : Hid (Byt l) := h.byt
  have H := Bx.mk h
  have HT : Bx (lnR l p (l.length + 1 - p) p = lnT l p) := ⟨rfl⟩
  generalize lnT l p = T at HT ⊢
  obtain ⟨T1, T2, T3⟩ := T
  simp only
  clear h
  go_enter Tryz.func26, Tryz.ntmps26
  go_wp2_with fail
  go_loopw [7] (fun i wr => ∃ (k : Nat), p ≤ k ∧ k ≤ len ∧ i = .int .i64 k ∧ w = wr ∧ Bx (lnR l p (l.length + 1 - k) k = (T1, T2, T3))) (fun i _ => len - (intOf i).toNat)
  case atStart => exact ⟨p, Nat.le_refl _, hp, rfl, rfl, HT⟩
  case round =>
    clear HT
    obtain ⟨k, hpk, hk, rfl, rfl, HR⟩ := hrel
    by_cases hlt : k < len
    · have hkI : (k : Int) < (len : Int) := by omega
      rw [lnR_step l p k (by rw [hl.out]; exact hlt)] at HR
      by_cases h1024 : 1024 ≤ k
      · have g : (k : Int) ≥ 1024 := by omega
        have HF : Bx (([], 0, 5) = (T1, T2, T3)) := ⟨by rw [← HR.out, if_pos h1024]⟩
        clear HR
        obtain ⟨e1, e2⟩ := Prod.mk.inj HF.out
        obtain ⟨e2, e3⟩ := Prod.mk.inj e2
        have HE1 := Bx.mk e1
        have HE2 := Bx.mk e2
        have HE3 := Bx.mk e3
        clear e1 e2 e3 HF
        go_wp2
        go_ret3
        exact ⟨by rw [← HE1.out, ← HE2.out, ← HE3.out]; rfl, rfl⟩
      · have g1 : ¬ (k : Int) ≥ 1024 := by omega
        rw [if_neg h1024] at HR
        clear h1024
        obtain ⟨b, off, rfl, _, hc⟩ := H.out.spot (by omega)
        have hck := hc k hlt
        have hbd := HBY.out.getD k
        by_cases hpk2 : p < k
        · have g2 : (k : Int) > (p : Int) := by omega
          have hck1 := hc (k - 1) (by omega)
          generalize l.getD k 0 = C at *
          generalize l.getD (k - 1) 0 = C1 at *
          clear hc
          by_cases h13 : C1 = 13
          · have g13 : (C1 == 13) = true := by simpa using h13
            by_cases h10 : C = 10
            · have g10 : (C == 10) = true := by simpa using h10
              have HF : Bx (((l.drop p).take (k - 1 - p), k + 1 - p, 0) = (T1, T2, T3)) := ⟨by rw [← HR.out, if_pos ⟨⟨hpk2, h13⟩, h10⟩]⟩
              have hsl : ∀ W, (Instr.sliceAt 22 (.slice (some ⟨b, off, none⟩) len cap) (some (.int .i64 (p : Int))) (some (.int .i64 ((k : Int) - 1))) none).run Tryz.prog W = .ok (.slice (slA (some ⟨b, off, none⟩) p cap) (k - 1 - p) (cap - p)) W := fun W => run_sl_lh (some ⟨b, off, none⟩) len cap p (k - 1) (p : Int) ((k : Int) - 1) rfl (by omega) (by omega) (by have := H.out.le_cap; omega) W
              have hpc := (H.out.piece p (k - 1) (by omega) (by omega)).str
              obtain ⟨e1, e2⟩ := Prod.mk.inj HF.out
              obtain ⟨e2, e3⟩ := Prod.mk.inj e2
              have HE2 : Bx ((k : Int) + 1 - (p : Int) = (T2 : Int)) := ⟨by rw [← e2]; omega⟩
              have HE3 := Bx.mk e3
              rw [e1] at hpc
              generalize slA (some ⟨b, off, none⟩) p cap = asl at *
              clear HR HF e1 e2 e3 h13 h10
              go_wp2
              go_ret3
              exact ⟨by rw [← HE2.out, ← HE3.out]; rfl, rfl⟩
            · have g10 : (C == 10) = false := by simpa using h10
              have HF : Bx (([], 0, 4) = (T1, T2, T3)) := ⟨by rw [← HR.out, if_neg (fun hh => h10 hh.2), if_pos (.inl ⟨hpk2, h13⟩)]⟩
              clear HR h13 h10
              obtain ⟨e1, e2⟩ := Prod.mk.inj HF.out
              obtain ⟨e2, e3⟩ := Prod.mk.inj e2
              have HE1 := Bx.mk e1
              have HE2 := Bx.mk e2
              have HE3 := Bx.mk e3
              clear e1 e2 e3 HF
              go_wp2
              go_ret3
              exact ⟨by rw [← HE1.out, ← HE2.out, ← HE3.out]; rfl, rfl⟩
          · have g13 : (C1 == 13) = false := by simpa using h13
            have HR2 : Bx ((if C = 10 ∨ (C ≠ 13 ∧ (C < 32 ∨ 127 ≤ C)) then ([], 0, 4) else lnR l p (l.length + 1 - (k + 1)) (k + 1)) = (T1, T2, T3)) := ⟨by
              have h9 := HR.out
              rw [if_neg (fun hh => h13 hh.1.2)] at h9
              rw [← h9]
              by_cases hz : C = 10 ∨ (C ≠ 13 ∧ (C < 32 ∨ 127 ≤ C))
              · rw [if_pos hz, if_pos (.inr hz)]
              · rw [if_neg hz, if_neg (fun hh => hh.elim (fun q => h13 q.2) hz)]⟩
            clear HR h13
            by_cases h10 : C = 10
            · have g10 : (C == 10) = true := by simpa using h10
              have HF : Bx (([], 0, 4) = (T1, T2, T3)) := ⟨by rw [← HR2.out, if_pos (.inl h10)]⟩
              clear HR2 h10
              obtain ⟨e1, e2⟩ := Prod.mk.inj HF.out
              obtain ⟨e2, e3⟩ := Prod.mk.inj e2
              have HE1 := Bx.mk e1
              have HE2 := Bx.mk e2
              have HE3 := Bx.mk e3
              clear e1 e2 e3 HF
              go_wp2
              go_ret3
              exact ⟨by rw [← HE1.out, ← HE2.out, ← HE3.out]; rfl, rfl⟩
            · have g10 : (C == 10) = false := by simpa using h10
              by_cases h13b : C = 13
              · have g13b : (C != 13) = false := by simp [h13b]
                have HF : Bx (lnR l p (l.length + 1 - (k + 1)) (k + 1) = (T1, T2, T3)) := ⟨by rw [← HR2.out, if_neg (by omega)]⟩
                clear HR2
                go_wp2
                go_roundw
                case rel => exact ⟨k + 1, by omega, by omega, by go_num, by first | rfl | trivial, HF⟩
                case measure => simp [intOf]; omega
              · have g13b : (C != 13) = true := by simp [h13b]
                by_cases h32 : C < 32
                · have HF : Bx (([], 0, 4) = (T1, T2, T3)) := ⟨by rw [← HR2.out, if_pos (.inr ⟨h13b, .inl h32⟩)]⟩
                  clear HR2 h10 h13b
                  obtain ⟨e1, e2⟩ := Prod.mk.inj HF.out
                  obtain ⟨e2, e3⟩ := Prod.mk.inj e2
                  have HE1 := Bx.mk e1
                  have HE2 := Bx.mk e2
                  have HE3 := Bx.mk e3
                  clear e1 e2 e3 HF
                  go_wp2
                  go_ret3
                  exact ⟨by rw [← HE1.out, ← HE2.out, ← HE3.out]; rfl, rfl⟩
                · by_cases h127 : 127 ≤ C
                  · have g127 : C ≥ 127 := h127
                    have HF : Bx (([], 0, 4) = (T1, T2, T3)) := ⟨by rw [← HR2.out, if_pos (.inr ⟨h13b, .inr h127⟩)]⟩
                    clear HR2 h10 h13b
                    obtain ⟨e1, e2⟩ := Prod.mk.inj HF.out
                    obtain ⟨e2, e3⟩ := Prod.mk.inj e2
                    have HE1 := Bx.mk e1
                    have HE2 := Bx.mk e2
                    have HE3 := Bx.mk e3
                    clear e1 e2 e3 HF
                    go_wp2
                    go_ret3
                    exact ⟨by rw [← HE1.out, ← HE2.out, ← HE3.out]; rfl, rfl⟩
                  · have g127 : ¬ C ≥ 127 := h127
                    have HF : Bx (lnR l p (l.length + 1 - (k + 1)) (k + 1) = (T1, T2, T3)) := ⟨by rw [← HR2.out, if_neg (by omega)]⟩
                    clear HR2
                    go_wp2
                    go_roundw
                    case rel => exact ⟨k + 1, by omega, by omega, by go_num, by first | rfl | trivial, HF⟩
                    case measure => simp [intOf]; omega
        · have g2 : ¬ (k : Int) > (p : Int) := by omega
          generalize l.getD k 0 = C at *
          clear hc
          have HR2 : Bx ((if C = 10 ∨ (C ≠ 13 ∧ (C < 32 ∨ 127 ≤ C)) then ([], 0, 4) else lnR l p (l.length + 1 - (k + 1)) (k + 1)) = (T1, T2, T3)) := ⟨by
            have h9 := HR.out
            rw [if_neg (fun hh => hpk2 hh.1.1)] at h9
            rw [← h9]
            by_cases hz : C = 10 ∨ (C ≠ 13 ∧ (C < 32 ∨ 127 ≤ C))
            · rw [if_pos hz, if_pos (.inr hz)]
            · rw [if_neg hz, if_neg (fun hh => hh.elim (fun q => hpk2 q.1) hz)]⟩
          clear HR
          by_cases h10 : C = 10
          · have g10 : (C == 10) = true := by simpa using h10
            have HF : Bx (([], 0, 4) = (T1, T2, T3)) := ⟨by rw [← HR2.out, if_pos (.inl h10)]⟩
            clear HR2 h10
            obtain ⟨e1, e2⟩ := Prod.mk.inj HF.out
            obtain ⟨e2, e3⟩ := Prod.mk.inj e2
            have HE1 := Bx.mk e1
            have HE2 := Bx.mk e2
            have HE3 := Bx.mk e3
            clear e1 e2 e3 HF
            go_wp2
            go_ret3
            exact ⟨by rw [← HE1.out, ← HE2.out, ← HE3.out]; rfl, rfl⟩
          · have g10 : (C == 10) = false := by simpa using h10
            by_cases h13b : C = 13
            · have g13b : (C != 13) = false := by simp [h13b]
              have HF : Bx (lnR l p (l.length + 1 - (k + 1)) (k + 1) = (T1, T2, T3)) := ⟨by rw [← HR2.out, if_neg (by omega)]⟩
              clear HR2
              go_wp2
              go_roundw
              case rel => exact ⟨k + 1, by omega, by omega, by go_num, by first | rfl | trivial, HF⟩
              case measure => simp [intOf]; omega
            · have g13b : (C != 13) = true := by simp [h13b]
              by_cases h32 : C < 32
              · have HF : Bx (([], 0, 4) = (T1, T2, T3)) := ⟨by rw [← HR2.out, if_pos (.inr ⟨h13b, .inl h32⟩)]⟩
                clear HR2 h10 h13b
                obtain ⟨e1, e2⟩ := Prod.mk.inj HF.out
                obtain ⟨e2, e3⟩ := Prod.mk.inj e2
                have HE1 := Bx.mk e1
                have HE2 := Bx.mk e2
                have HE3 := Bx.mk e3
                clear e1 e2 e3 HF
                go_wp2
                go_ret3
                exact ⟨by rw [← HE1.out, ← HE2.out, ← HE3.out]; rfl, rfl⟩
              · by_cases h127 : 127 ≤ C
                · have g127 : C ≥ 127 := h127
                  have HF : Bx (([], 0, 4) = (T1, T2, T3)) := ⟨by rw [← HR2.out, if_pos (.inr ⟨h13b, .inr h127⟩)]⟩
                  clear HR2 h10 h13b
                  obtain ⟨e1, e2⟩ := Prod.mk.inj HF.out
                  obtain ⟨e2, e3⟩ := Prod.mk.inj e2
                  have HE1 := Bx.mk e1
                  have HE2 := Bx.mk e2
                  have HE3 := Bx.mk e3
                  clear e1 e2 e3 HF
                  go_wp2
                  go_ret3
                  exact ⟨by rw [← HE1.out, ← HE2.out, ← HE3.out]; rfl, rfl⟩
                · have g127 : ¬ C ≥ 127 := h127
                  have HF : Bx (lnR l p (l.length + 1 - (k + 1)) (k + 1) = (T1, T2, T3)) := ⟨by rw [← HR2.out, if_neg (by omega)]⟩
                  clear HR2
                  go_wp2
                  go_roundw
                  case rel => exact ⟨k + 1, by omega, by omega, by go_num, by first | rfl | trivial, HF⟩
                  case measure => simp [intOf]; omega
    · have hge : ¬ (k : Int) < (len : Int) := by omega
      have HF : Bx (([], 0, 3) = (T1, T2, T3)) := ⟨by rw [← HR.out, lnR_over l p k (by rw [hl.out]; omega) (by rw [hl.out]; exact hk)]⟩
      clear HR
      obtain ⟨e1, e2⟩ := Prod.mk.inj HF.out
      obtain ⟨e2, e3⟩ := Prod.mk.inj e2
      have HE1 := Bx.mk e1
      have HE2 := Bx.mk e2
      have HE3 := Bx.mk e3
      clear e1 e2 e3 HF
      go_wp2
      go_ret3
      exact ⟨by rw [← HE1.out, ← HE2.out, ← HE3.out]; rfl, rfl⟩
end Go.Proofs.YtdameoejigpnhaaGreatDoor
