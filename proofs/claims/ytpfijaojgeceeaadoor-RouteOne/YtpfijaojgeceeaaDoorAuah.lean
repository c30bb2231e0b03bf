/- What the document's Texts answers of two lists that are the same. What the document's Fields answers. -/
import Derived.Test.YtpfijaojgeceeaaDoorFields
namespace Go.Proofs.YtpfijaojgeceeaaDoor
open Go.RowKit
set_option linter.unusedVariables false

/-- a list of texts in memory -/
structure Txt (w : World) (ao : Option Addr) (n : Nat) (L : List ByteArray) : Prop where
  len_eq : L.length = n
  spot : 0 < n → ∃ b, ao = some ⟨b, 0, none⟩ ∧ b < w.heap.size ∧ ∀ i, i < n → w.cell? ⟨b, i, none⟩ = some (.string (L.getD i ⟨#[]⟩))
set_option maxRecDepth 100000 in
theorem Txt.below {w w' : World} {ao : Option Addr} {n : Nat} {L : List ByteArray} (h : Txt w ao n L) (hb : Below w.heap.size w w') : Txt w' ao n L := by
  refine ⟨h.len_eq, fun hp => ?_⟩
  obtain ⟨b, e, hlt, hc⟩ := h.spot hp
  exact ⟨b, e, Nat.lt_of_lt_of_le hlt hb.size, fun i hi => by rw [hb.cell hlt]; exact hc i hi⟩
set_option maxRecDepth 100000 in
theorem Txt.drewN {w : World} {ao : Option Addr} {n : Nat} {L : List ByteArray} (h : Txt w ao n L) (q : Nat) : Txt (w.drewN q) ao n L := ⟨h.len_eq, h.spot⟩
set_option maxRecDepth 100000 in
theorem Txt.of_owns {w : World} {B n : Nat} {v : Value} {L : List ByteArray} (h : w.ownsRow B 9 1 v n (svT L)) : ∃ ao cap, v = .slice ao n cap ∧ Txt w ao n L := by
  have hlen : L.length = n := by have := h.1; rw [sv_length] at this; omega
  rcases h.2 with ⟨rfl, hn⟩ | ⟨g, cap, cur, rfl, hb, hg, hnc, hcm, hcs, ht⟩
  · subst hn
    exact ⟨none, 0, rfl, hlen, fun hp => absurd hp (Nat.lt_irrefl _)⟩
  · refine ⟨some ⟨g, 0, none⟩, cap, rfl, hlen, fun _ => ⟨g, rfl, (Array.getElem?_eq_some_iff.1 hg).1, fun i hi => ?_⟩⟩
    have hc := h.cellAt i (by omega)
    rw [hc, List.getD_eq_getElem?_getD, List.getElem?_eq_getElem (by omega : i < L.length)]
    simp [svT, List.getElem?_eq_getElem (by omega : i < L.length)]
set_option maxRecDepth 100000 in
theorem Txt.grown {w w' : World} {ao : Option Addr} {n g : Nat} {L : List ByteArray} (h : Txt w ao n L) (hg : w.grownBy w' (some g)) (hne : ∀ b, ao = some ⟨b, 0, none⟩ → b ≠ g) : Txt w' ao n L := by
  refine ⟨h.len_eq, fun hp => ?_⟩
  obtain ⟨b, e, hlt, hc⟩ := h.spot hp
  refine ⟨b, e, Nat.lt_of_lt_of_le hlt hg.size, fun i hi => ?_⟩
  have hb : w'.heap[b]? = w.heap[b]? := hg.block b hlt (by intro h; exact hne b e (Option.some.inj h))
  rw [← hc i hi]
  unfold World.cell?
  rw [hb]
set_option maxRecDepth 100000 in
theorem fL_len (c : UInt8) (s : ByteArray) (most : Int) (hs : s.size ≤ 300) : (fL c s most).length ≤ 301 := by
  unfold fL
  split
  · have := cnt_all c s; have := cnt_le c s s.size; omega
  · simp
end Go.Proofs.YtpfijaojgeceeaaDoor
namespace Go.Proofs.YtpfijaojgeceeaaDoor
open Go.RowKit
set_option linter.unusedVariables false

set_option maxRecDepth 100000 in
set_option maxHeartbeats 1000000 in
theorem reffields_any (s : ByteArray) (y most : Int) (w : World) (hs : s.size ≤ 1000000) (hy : 0 ≤ y ∧ y ≤ 255) :
    Calls Tryd.prog 29 #[.string s, .int .u8 y, .int .i64 most] w (FP (cb y) s most w) := by
  obtain ⟨i0, hi, hz0, hz1, hz2⟩ := info_parts Tryd.info9
  go_enter Tryd.func29, Tryd.ntmps29
  go_wp2_with fail
  go_loop [8, 9] (fun n i => ∃ k : Nat, k ≤ s.size ∧ i = .int .i64 k ∧ n = .int .i64 ((cntT (cb y) s k : Int) + 1)) (fun _ i => s.size - (intOf i).toNat)
  case atStart => exact ⟨0, Nat.zero_le _, rfl, rfl⟩
  case round =>
    obtain ⟨k, hk, rfl, rfl⟩ := hrel
    have hle := cnt_le (cb y) s k
    by_cases hlt : k < s.size
    · have hki : (k : Int) < (s.size : Int) := by omega
      have hse : ∀ h, (((s[k]'h).toNat : Nat) : Int) = sb s k := fun h => sb_eq s k h
      by_cases he : sb s k = y
      · have HC : Hid (cntT (cb y) s (k + 1) = cntT (cb y) s k + 1) := cnt_hit hy hlt he
        have g1 : (sb s k == y) = true := by simpa using he
        clear he
        generalize cntT (cb y) s k = m at HC hle
        go_wp2_with fail
        go_round
        case rel => exact ⟨k + 1, by omega, by go_num, by rw [HC.out]; go_num⟩
        case measure => simp [intOf]; omega
      · have HC : Hid (cntT (cb y) s (k + 1) = cntT (cb y) s k) := cnt_miss hy hlt he
        have g1 : (sb s k == y) = false := by simpa using he
        clear he
        generalize cntT (cb y) s k = m at HC hle
        go_wp2_with fail
        go_round
        case rel => exact ⟨k + 1, by omega, by go_num, by rw [HC.out]⟩
        case measure => simp [intOf]; omega
    · have HK : Hid (cntT (cb y) s k + 1 = (pcs (cb y) s).length) := by
        show _ = _; rw [cnt_all, show k = s.size by omega]
      have hki : ¬ (k : Int) < (s.size : Int) := by omega
      generalize cntT (cb y) s k = m at HK hle
      by_cases hmost : most < (m : Int) + 1
      · have HN : Hid (most < ((pcs (cb y) s).length : Int)) := by show _ < _; rw [← HK.out]; omega
        go_wp2_with fail
        go_ret2
        exact fp_none HN.out rfl (Below.refl _ _)
      · have HM : Hid (((pcs (cb y) s).length : Int) ≤ most) := by show _ ≤ _; rw [← HK.out]; omega
        go_wp2_with fail
        go_loopw [10, 11, 12] (fun v vp i wr => ∃ (j : Nat) (P : List ByteArray) (p : ByteArray), j ≤ s.size ∧ i = .int .i64 j ∧ vp = .string p ∧ P.length + p.size ≤ j ∧ P ++ glueB p (pcs (cb y) (rest s j)) = pcs (cb y) s ∧ wr.ownsRow w.heap.size 9 1 v P.length (svT P) ∧ Below w.heap.size w wr) (fun _ _ i _ => s.size - (intOf i).toNat)
        case atStart => exact ⟨0, [], mkB [], Nat.zero_le _, rfl, rfl, Nat.le_refl _, by rw [rest_zero, glue_empty _ (pcs_ne _ _)]; rfl, World.ownsRow_nil _ _ _ _, Below.refl _ _⟩
        case round =>
          obtain ⟨j, P, p, hj, rfl, rfl, hlen, hP, hown, hb⟩ := hrel
          have HP : Hid (P ++ glueB p (pcs (cb y) (rest s j)) = pcs (cb y) s) := hP
          clear hP
          have hsz := hb.size
          obtain ⟨ao, cap, rfl⟩ := owns_slice hown
          by_cases hlt : j < s.size
          · have hji : (j : Int) < (s.size : Int) := by omega
            have hse : ∀ h, (((s[j]'h).toNat : Nat) : Int) = sb s j := fun h => sb_eq s j h
            by_cases he : sb s j = y
            · have HL : Hid ((P ++ [p]) ++ glueB (mkB []) (pcs (cb y) (rest s (j + 1))) = pcs (cb y) s) := by
                show _ = _; rw [← HP.out, pcs_hit hy hlt he, glue_cons, glue_empty _ (pcs_ne _ _)]; simp
              have g1 : (sb s j == y) = true := by simpa using he
              clear he HP
              go_wp2_with (at_builtin; refine wpList_append_own _ rfl _ _ 44 rfl w.heap.size 9 i0 (.string ⟨#[]⟩) 1 16 Tryd.underlying44 hi hz0 hz1 hz2 rfl (by decide) _ _ _ rfl (hown.alloc _) ⟨wr.heap.size, 0, none⟩ 1 1 [.string p] rfl rfl (cell_one_new _ _ _) (sv_one [p]) (by unfold maxLen; omega) (by omega) (by simp; omega) ?_)
              intro v' w5 hown' hgrow _
              have R := app_relS hb hsz hown hown' hgrow
              clear hown' hgrow hown
              have R1 : w5.ownsRow w.heap.size 9 1 v' (P.length + 1) (svT (P ++ [p])) := by rw [sv_append]; exact R.1
              go_wp2_with fail
              go_roundw
              case rel => exact ⟨j + 1, P ++ [p], mkB [], by omega, by go_num, rfl, by rw [mkB_size]; simp; omega, HL.out, by simpa using R1, R.2⟩
              case measure => simp [intOf]; omega
            · have HL : Hid (P ++ glueB (p ++ s.extract j (j + 1)) (pcs (cb y) (rest s (j + 1))) = pcs (cb y) s) := by
                show _ = _; rw [← HP.out, pcs_miss hy hlt he, glue_glue _ _ _ (pcs_ne _ _)]
              have g1 : (sb s j == y) = false := by simpa using he
              have j1 : (j : Int) + 1 ≤ (s.size : Int) := by omega
              have hz : (s.extract j (j + 1)).size = 1 := by
                rw [one_mk s j (by rw [← Lib.size_eq]; exact hlt), mkB_size]; rfl
              have hz2' : (p ++ s.extract j (j + 1)).size = p.size + 1 := by rw [ByteArray.size_append, hz]
              clear he HP
              go_wp2_with fail
              go_roundw
              case rel => exact ⟨j + 1, P, _, by omega, by go_num, rfl, by omega, HL.out, hown, hb⟩
              case measure => simp [intOf]; omega
          · have HL : Hid (P ++ [p] = pcs (cb y) s) := by
              show _ = _; rw [← HP.out, show j = s.size by omega, pcs_end, glue_cons]
            have hji : ¬ (j : Int) < (s.size : Int) := by omega
            clear HP
            go_wp2_with (at_builtin; refine wpList_append_own _ rfl _ _ 44 rfl w.heap.size 9 i0 (.string ⟨#[]⟩) 1 16 Tryd.underlying44 hi hz0 hz1 hz2 rfl (by decide) _ _ _ rfl (hown.alloc _) ⟨wr.heap.size, 0, none⟩ 1 1 [.string p] rfl rfl (cell_one_new _ _ _) (sv_one [p]) (by unfold maxLen; omega) (by omega) (by simp; omega) ?_)
            intro v' w5 hown' hgrow _
            have R := app_relS hb hsz hown hown' hgrow
            clear hown' hgrow hown
            have R1 : w5.ownsRow w.heap.size 9 1 v' (P.length + 1) (svT (P ++ [p])) := by rw [sv_append]; exact R.1
            go_wp2_with fail
            go_ret2
            exact fp_some HL.out (by rw [HL.out]; exact HM.out) rfl R1 (by simp) R.2
end Go.Proofs.YtpfijaojgeceeaaDoor
