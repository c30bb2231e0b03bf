/- What the document's Pad answers. -/
import Derived.Test.YtaphbenkkicbhaaDoorShaMath
import Derived.Test.YtaphbenkkicbhaaDoorCut
namespace Go.Proofs.YtaphbenkkicbhaaDoor
open Go.RowKit
set_option linter.unusedVariables false

theorem pad_rel {w wr w1 : World} {k : Nat} {v v' : Value} {o : Obj} (hb : Below w.heap.size w wr)
    (hown : wr.ownsRow w.heap.size 5 1 v (k + 1) (bv (128 :: List.replicate k 0)))
    (h1 : w1.ownsRow w.heap.size 5 1 v' (k + 1 + 1) (bv (128 :: List.replicate k 0) ++ [.int .u8 0])) (hg : (wr.alloc o).grownBy w1 v.ownBlock) :
    w1.ownsRow w.heap.size 5 1 v' (k + 1 + 1) (bv (128 :: List.replicate (k + 1) 0)) ∧ Below w.heap.size w w1 := by
  refine ⟨by rw [rep_snoc, bv_append]; exact h1, ?_⟩
  refine (hb.alloc hb.size o).grown hg (by have := hb.size; simp; omega) ?_
  intro g hg'
  exact (hown.lt g hg').1

set_option maxHeartbeats 400000 in
theorem refpad_any (n : Int) (w : World) (h0 : 0 ≤ n) (h1 : n ≤ 18446744073709551615) :
    Calls Tryd.prog 47 #[.int .u64 n] w fun e w' => ∃ v, e = .returned v ∧ w'.ownsRow w.heap.size 5 1 v (padL n).length (bv (padL n)) ∧ Below w.heap.size w w' := by
  obtain ⟨i0, hi, hz0, hz1, hz2⟩ := info_parts Tryd.info5
  have hz := padZ_le n
  go_enter Tryd.func47, Tryd.ntmps47
  go_wp2
  go_loopw [3] (fun v wr => ∃ k : Nat, k ≤ padZ n ∧ wr.ownsRow w.heap.size 5 1 v (k + 1) (bv (128 :: List.replicate k 0)) ∧ Below w.heap.size w wr) (fun v _ => padZ n + 1 - lenOf v)
  case atStart => exact ⟨0, Nat.zero_le _, World.ownsRow_lit w #[.int .u8 128] 1 (Nat.le_refl _) (by unfold maxLen; omega) rfl, (Below.refl _ _).alloc (Nat.le_refl _) _⟩
  case round =>
    obtain ⟨k, hk, hown, hb⟩ := hrel
    obtain ⟨g, cap, rfl, hg0, hg1⟩ := owns_form hown (by omega)
    have HM : Hid (((((n + ((k : Int) + 1)) % 18446744073709551616 + 8) % 18446744073709551616) % 64 ≠ 0) ↔ k < padZ n) := pad_more n k h0 hk
    have HE : Hid ((IntKind.u64.wrap (IntKind.u64.wrap (n + ((k : Int) + 1)) + 8)).tmod 64 = (((n + ((k : Int) + 1)) % 18446744073709551616 + 8) % 18446744073709551616) % 64) := by
      show _ = _
      rw [IntKind.wrap_u64, IntKind.wrap_u64, Int.tmod_eq_emod_of_nonneg (by omega)]
    have hbyt : Byt (128 :: List.replicate k 0) := Byt.cons (by decide) (by intro c hc; rw [List.eq_of_mem_replicate hc]; decide)
    by_cases hlt : k < padZ n
    · have hc : ((IntKind.u64.wrap (IntKind.u64.wrap (n + ((k : Int) + 1)) + 8)).tmod 64 != 0) = true := by rw [HE.out, bne_iff_ne]; exact HM.out.2 hlt
      go_wp2_with (at_builtin; refine wpList_append_own _ rfl _ _ 22 rfl w.heap.size 5 i0 (.int .u8 0) 1 1 Tryd.underlying22 hi hz0 hz1 hz2 rfl (by decide) _ _ _ rfl (hown.alloc _) ⟨wr.heap.size, 0, none⟩ 1 1 [.int .u8 0] rfl rfl (cell_one_new _ _ _) (bv_one [0]) (by unfold maxLen; omega) (by omega) (by have := hb.size; simp; omega) ?_)
      intro v' w1 hown' hgrow _
      have R := pad_rel hb hown hown' hgrow
      have hlen : lenOf v' = k + 1 + 1 := by obtain ⟨g', cap', rfl, _, _⟩ := owns_form hown' (by omega); rfl
      have HL : Hid (lenOf v' = k + 1 + 1) := hlen
      clear hown' hgrow hown hb hlen
      go_wp2
      go_roundw
      case rel => exact ⟨k + 1, by omega, R.1, R.2⟩
      case measure => rw [HL.out]; simp [lenOf]; omega
    · obtain rfl : k = padZ n := by omega
      have hc : ((IntKind.u64.wrap (IntKind.u64.wrap (n + ((padZ n : Int) + 1)) + 8)).tmod 64 != 0) = false := by
        rw [HE.out, bne_eq_false_iff_eq]; exact Classical.byContradiction fun h => hlt (HM.out.1 h)
      have h8n : IntKind.u64.wrap (8 * n) = 8 * n % 18446744073709551616 := IntKind.wrap_u64 _
      go_wp2_with fail
      refine (refput_some (8 * n % 18446744073709551616) 8 _ (by decide) (by decide) (by omega) (by omega)).mono ?_
      rintro e w2 ⟨v2, rfl, hown2, hb2⟩
      obtain ⟨a2, cap2, rfl, hm2⟩ := Bts.of_owns hown2 (putL_byt _ _)
      obtain ⟨b2, off2, rfl, _, _⟩ := hm2.spot (by omega)
      have hcells := hm2.cells
      have hown1 := owns_below hown hb2
      have hbb := bstep hb hb2
      have HP : Hid (bv (128 :: List.replicate (padZ n) 0) ++ bv (putL (8 * n % 18446744073709551616) 8) = bv (padL n)) := by show _ = _; rw [← bv_append]; rfl
      have HLn : Hid ((padL n).length = padZ n + 1 + 8) := padL_length n
      have hl8 : (bv (putL (8 * n % 18446744073709551616) 8)).length = 8 * 1 := by rw [bv_length, putL_length]
      clear hown hb hb2 hown2 hm2 h8n
      generalize putL (8 * n % 18446744073709551616) 8 = t at *
      go_wp2_with (at_builtin; refine wpList_append_own _ rfl _ _ 22 rfl w.heap.size 5 i0 (.int .u8 0) 1 1 Tryd.underlying22 hi hz0 hz1 hz2 rfl (by decide) _ _ _ rfl hown1 ⟨b2, off2, none⟩ 8 cap2 (bv t) rfl hl8 hcells (bv_one t) (by unfold maxLen; omega) (by omega) hbb.size ?_)
      intro v' w3 hown' hgrow _
      have hb3 : Below w.heap.size w w3 := hbb.grown hgrow hbb.size (by intro g hg; cases hg; exact hg0)
      rw [HP.out, ← HLn.out] at hown'
      clear hown1 hgrow hbb hcells hl8
      go_wp2
      go_ret
      exact ⟨_, rfl, hown', hb3⟩
end Go.Proofs.YtaphbenkkicbhaaDoor
