/- What the document's Unhex answers. -/
import Derived.Test.YtdoedkgidcoibaaDoorUnhex
import Derived.Test.YtdoedkgidcoibaaDoorRefHex
namespace Go.Proofs.YtdoedkgidcoibaaDoor
open Go.RowKit
set_option linter.unusedVariables false

/-- what is found among the first j letters -/
def hvU (c : Int) (j : Nat) : Int := if 0 ≤ hv c ∧ hv c < (j : Int) then hv c else -1
theorem hvU_zero (c : Int) : hvU c 0 = -1 := by unfold hvU; rw [if_neg (by omega)]
theorem hvU_hit {c : Int} {j : Nat} (h : hv c = (j : Int)) : hvU c (j + 1) = (j : Int) := by unfold hvU; rw [if_pos (by omega), h]
theorem hvU_miss {c : Int} {j : Nat} (h : ¬ hv c = (j : Int)) : hvU c (j + 1) = hvU c j := by
  unfold hvU
  by_cases e : 0 ≤ hv c ∧ hv c < (j : Int)
  · rw [if_pos e, if_pos (by omega)]
  · rw [if_neg e, if_neg (by omega)]
theorem hvU_all {c : Int} (h : 0 ≤ c ∧ c ≤ 255) : hvU c 16 = hv c := by
  have := hv_bd h
  unfold hvU
  split
  · rfl
  · omega
theorem piece_eq (s : ByteArray) (i j : Nat) (hi : i < s.size) (hj : j < 16) : ((strOf [hx j]).toList == (s.extract i (i + 1)).toList) = decide (hv (sb s i) = (j : Int)) := by
  have hlen : i < s.data.toList.length := by rw [← Lib.size_eq]; exact hi
  rw [Lib.extract_toList, show i + 1 - i = 1 by omega, List.drop_eq_getElem_cons hlen, List.take_succ_cons, List.take_zero, Lib.toList_data]
  have e1 : (strOf [hx j]).data.toList = [UInt8.ofNat (hx j).toNat] := rfl
  have e2 : sb s i = ((s.data.toList[i]'hlen).toNat : Int) := by
    unfold sb; rw [List.getD_eq_getElem?_getD, List.getElem?_eq_getElem hlen, Option.getD_some]
  rw [e1, Bool.eq_iff_iff]
  simp only [beq_iff_eq, decide_eq_true_eq]
  rw [← hv_iff (sb_byt s i) j hj, e2]
  have hb := hx_byt j
  have hb2 := UInt8.toNat_lt (s.data.toList[i]'hlen)
  constructor
  · intro h
    have h1 := (List.cons.inj h).1
    have := congrArg UInt8.toNat h1
    rw [UInt8.toNat_ofNat'] at this
    omega
  · intro h
    congr 1
    apply UInt8.toNat_inj.1
    rw [UInt8.toNat_ofNat', h]
    omega
theorem app_rel8 {B n : Nat} {w wr w1 : World} {l : List Int} {c : Int} {v v' : Value} {o : Obj} (hb : Below B w wr) (hB : B ≤ wr.heap.size)
    (hown : wr.ownsRow B 5 1 v n (bv l)) (h1 : w1.ownsRow B 5 1 v' (n + 1) (bv l ++ [.int .u8 c])) (hg : (wr.alloc o).grownBy w1 v.ownBlock) :
    w1.ownsRow B 5 1 v' (n + 1) (bv (l ++ [c])) ∧ Below B w w1 := by
  refine ⟨by rw [bv_append]; exact h1, ?_⟩
  refine (hb.alloc hB o).grown hg (by simp; omega) ?_
  intro g hg'
  exact (hown.lt g hg').1
set_option maxRecDepth 100000 in
set_option maxHeartbeats 1000000 in
theorem refunhex_any (s : ByteArray) (w : World) (hs : s.size ≤ 1099511627776) :
    Calls Tryd.prog 31 #[.string s] w (UnP s w) := by
  obtain ⟨i0, hi, hz0, hz1, hz2⟩ := info_parts Tryd.info5
  go_enter Tryd.func31, Tryd.ntmps31
  go_wp2
  go_loopw [4, 5] (fun v i wr => ∃ (k : Nat) (l : List Int), 2 * k ≤ s.size ∧ i = .int .i64 (2 * (k : Int)) ∧ unB s k = some l ∧ wr.ownsRow w.heap.size 5 1 v k (bv l) ∧ Below w.heap.size w wr) (fun _ i _ => s.size + 2 - (intOf i).toNat)
  case atStart => exact ⟨0, [], Nat.zero_le _, rfl, rfl, World.ownsRow_nil _ _ _ _, Below.refl _ _⟩
  case round =>
    obtain ⟨k, l, hk, rfl, hl, hown, hb⟩ := hrel
    have HL : Hid (unB s k = some l) := hl
    clear hl
    by_cases hlt : 2 * k < s.size
    · have hki : 2 * (k : Int) < (s.size : Int) := by omega
      by_cases hodd : 2 * k + 1 = s.size
      · have g1 : ((2 * (k : Int) + 1) == (s.size : Int)) = true := by simp; omega
        have HU : Hid (unhexV s = none) := un_odd (by omega)
        clear hodd
        go_wp2
        go_ret2
        exact un_none HU.out rfl hb
      · have g1 : ((2 * (k : Int) + 1) == (s.size : Int)) = false := by simp; omega
        have hk2 : 2 * k + 1 < s.size := by omega
        have hj1 : 2 * (k : Int) + 1 ≤ (s.size : Int) := by omega
        have hj2 : 2 * (k : Int) + 2 ≤ (s.size : Int) := by omega
        have P1 : Hid (∀ j, j < 16 → ((strOf [hx j]).toList == (s.extract (2 * k) (2 * k + 1)).toList) = decide (hv (sb s (2 * k)) = (j : Int))) := fun j hj => piece_eq s (2 * k) j hlt hj
        have P2 : Hid (∀ j, j < 16 → ((strOf [hx j]).toList == (s.extract (2 * k + 1) (2 * k + 2)).toList) = decide (hv (sb s (2 * k + 1)) = (j : Int))) := fun j hj => piece_eq s (2 * k + 1) j hk2 hj
        have b1 := sb_byt s (2 * k)
        have b2 := sb_byt s (2 * k + 1)
        generalize hc1 : sb s (2 * k) = c1 at P1 b1
        generalize hc2 : sb s (2 * k + 1) = c2 at P2 b2
        have H1 : Hid (sb s (2 * k) = c1) := hc1
        have H2 : Hid (sb s (2 * k + 1) = c2) := hc2
        clear hc1 hc2 hodd
        obtain ⟨wo, hwo⟩ : ∃ wo, wo = wr := ⟨_, rfl⟩
        subst hwo
        go_wp2
        go_loopw [6, 7, 8] (fun n m i w2 => ∃ j : Nat, j ≤ 16 ∧ i = .int .i64 j ∧ n = .int .i64 (hvU c1 j) ∧ m = .int .i64 (hvU c2 j) ∧ ∃ q, w2 = wo.drewN q) (fun _ _ i _ => 16 - (intOf i).toNat)
        case atStart => exact ⟨0, Nat.zero_le _, rfl, by rw [hvU_zero], by rw [hvU_zero], 0, rfl⟩
        case round =>
          obtain ⟨j, hj, rfl, rfl, rfl, q, hq⟩ := hrel
          have HQ : Hid (wr = wo.drewN q) := hq
          clear hq
          by_cases hj16 : j < 16
          · have hji : (j : Int) < 16 := by omega
            have p1 := P1.out j hj16
            have p2 := P2.out j hj16
            by_cases e1 : hv c1 = (j : Int) <;> by_cases e2 : hv c2 = (j : Int)
            · have N1 : Hid (hvU c1 (j + 1) = (j : Int)) := hvU_hit e1
              have N2 : Hid (hvU c2 (j + 1) = (j : Int)) := hvU_hit e2
              rw [decide_eq_true e1] at p1
              rw [decide_eq_true e2] at p2
              clear e1 e2
              go_wp2
              go_quiet ((go_at_call 45; exact Calls.quiet_of_same (letter_any j _ hj16)))
              go_wp2
              have HQ2 : Hid (∃ q, wr.drewN nq = wo.drewN q) := by show _; rw [HQ.out]; exact drew_close _ _ _
              generalize wr.drewN nq = w3 at HQ2 ⊢
              clear HQ
              go_quiet ((go_at_call 45; exact Calls.quiet_of_same (letter_any j _ hj16)))
              go_wp2
              go_roundw
              case rel => exact ⟨j + 1, by omega, by go_num, by rw [N1.out], by rw [N2.out], by obtain ⟨q2, e⟩ := HQ2.out; rw [e]; exact drew_close _ _ _⟩
              case measure => simp [intOf]; omega
            · have N1 : Hid (hvU c1 (j + 1) = (j : Int)) := hvU_hit e1
              have N2 : Hid (hvU c2 (j + 1) = hvU c2 j) := hvU_miss e2
              rw [decide_eq_true e1] at p1
              rw [decide_eq_false e2] at p2
              clear e1 e2
              go_wp2
              go_quiet ((go_at_call 45; exact Calls.quiet_of_same (letter_any j _ hj16)))
              go_wp2
              have HQ2 : Hid (∃ q, wr.drewN nq = wo.drewN q) := by show _; rw [HQ.out]; exact drew_close _ _ _
              generalize wr.drewN nq = w3 at HQ2 ⊢
              clear HQ
              go_quiet ((go_at_call 45; exact Calls.quiet_of_same (letter_any j _ hj16)))
              go_wp2
              go_roundw
              case rel => exact ⟨j + 1, by omega, by go_num, by rw [N1.out], by rw [N2.out], by obtain ⟨q2, e⟩ := HQ2.out; rw [e]; exact drew_close _ _ _⟩
              case measure => simp [intOf]; omega
            · have N1 : Hid (hvU c1 (j + 1) = hvU c1 j) := hvU_miss e1
              have N2 : Hid (hvU c2 (j + 1) = (j : Int)) := hvU_hit e2
              rw [decide_eq_false e1] at p1
              rw [decide_eq_true e2] at p2
              clear e1 e2
              go_wp2
              go_quiet ((go_at_call 45; exact Calls.quiet_of_same (letter_any j _ hj16)))
              go_wp2
              have HQ2 : Hid (∃ q, wr.drewN nq = wo.drewN q) := by show _; rw [HQ.out]; exact drew_close _ _ _
              generalize wr.drewN nq = w3 at HQ2 ⊢
              clear HQ
              go_quiet ((go_at_call 45; exact Calls.quiet_of_same (letter_any j _ hj16)))
              go_wp2
              go_roundw
              case rel => exact ⟨j + 1, by omega, by go_num, by rw [N1.out], by rw [N2.out], by obtain ⟨q2, e⟩ := HQ2.out; rw [e]; exact drew_close _ _ _⟩
              case measure => simp [intOf]; omega
            · have N1 : Hid (hvU c1 (j + 1) = hvU c1 j) := hvU_miss e1
              have N2 : Hid (hvU c2 (j + 1) = hvU c2 j) := hvU_miss e2
              rw [decide_eq_false e1] at p1
              rw [decide_eq_false e2] at p2
              clear e1 e2
              go_wp2
              go_quiet ((go_at_call 45; exact Calls.quiet_of_same (letter_any j _ hj16)))
              go_wp2
              have HQ2 : Hid (∃ q, wr.drewN nq = wo.drewN q) := by show _; rw [HQ.out]; exact drew_close _ _ _
              generalize wr.drewN nq = w3 at HQ2 ⊢
              clear HQ
              go_quiet ((go_at_call 45; exact Calls.quiet_of_same (letter_any j _ hj16)))
              go_wp2
              go_roundw
              case rel => exact ⟨j + 1, by omega, by go_num, by rw [N1.out], by rw [N2.out], by obtain ⟨q2, e⟩ := HQ2.out; rw [e]; exact drew_close _ _ _⟩
              case measure => simp [intOf]; omega
          · have HJ : Hid (j = 16) := by show _ = _; omega
            have hji : ¬ (j : Int) < 16 := by omega
            have hown2 : wr.ownsRow w.heap.size 5 1 u4 k (bv l) := by rw [HQ.out]; exact owns_drewN hown q
            have hb2 : Below w.heap.size w wr := by rw [HQ.out]; exact below_drewN hb q
            rw [HJ.out, hvU_all b1, hvU_all b2]
            have hv1 := hv_bd b1
            have hv2 := hv_bd b2
            generalize hd1 : hv c1 = d1 at hv1
            generalize hd2 : hv c2 = d2 at hv2
            have D1 : Hid (hv (sb s (2 * k)) = d1) := by show _ = _; rw [H1.out, hd1]
            have D2 : Hid (hv (sb s (2 * k + 1)) = d2) := by show _ = _; rw [H2.out, hd2]
            clear hd1 hd2 HQ hown hb H1 H2 P1 P2
            by_cases hbad : d1 < 0 ∨ d2 < 0
            · have HU : Hid (unhexV s = none) := un_stop (k := k) hk2 (unPair_none (by rw [D1.out, D2.out]; exact hbad))
              by_cases g0 : d1 < 0
              · clear hbad
                go_wp2
                go_ret2
                exact un_none HU.out rfl hb2
              · have g2 : decide (d2 < 0) = true := by simp; omega
                clear hbad
                go_wp2
                go_ret2
                exact un_none HU.out rfl hb2
            · obtain ⟨p, hp⟩ : ∃ p : Nat, d1 = (p : Int) := ⟨d1.toNat, by omega⟩
              obtain ⟨q, hq⟩ : ∃ q : Nat, d2 = (q : Int) := ⟨d2.toNat, by omega⟩
              subst hp hq
              have hp16 : p < 16 := by omega
              have hq16 : q < 16 := by omega
              have HU : Hid (unB s (k + 1) = some (l ++ [16 * (p : Int) + q])) := unB_more HL.out (unPair_some D1.out D2.out)
              have n1 : ¬ (p : Int) < 0 := by omega
              have n3 : decide ((q : Int) < 0) = false := by simp
              have hsz := hb2.size
              clear hbad hv1 hv2 D1 D2 HL
              go_wp2_with (at_builtin; refine wpList_append_own _ rfl _ _ 22 rfl w.heap.size 5 i0 (.int .u8 0) 1 1 Tryd.underlying22 hi hz0 hz1 hz2 rfl (by decide) _ _ _ rfl (hown2.alloc _) ⟨wr.heap.size, 0, none⟩ 1 1 [.int .u8 (16 * (p : Int) + q)] rfl rfl (cell_one_new _ _ _) (bv_one [16 * (p : Int) + q]) (by unfold maxLen; omega) (by omega) (by simp; omega) ?_)
              intro v' w5 hown' hgrow _
              have R := app_rel8 hb2 hsz hown2 hown' hgrow
              clear hown' hgrow hown2 hb2
              go_wp2
              go_roundw
              case rel => exact ⟨k + 1, _, by omega, by go_num, HU.out, R.1, R.2⟩
              case measure => simp [intOf]; omega
    · have hki : ¬ 2 * (k : Int) < (s.size : Int) := by omega
      have HU : Hid (unhexV s = some l) := un_end (k := k) (by omega) HL.out
      have HB : Hid (Byt l) := (unB_facts s k l HL.out).2
      go_wp2
      go_ret2
      exact un_some HU.out rfl hown HB.out hb
end Go.Proofs.YtdoedkgidcoibaaDoor
