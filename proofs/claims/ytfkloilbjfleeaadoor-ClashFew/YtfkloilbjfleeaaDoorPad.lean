/- What Pad answers: what stands behind a text of any length. -/
import Derived.Test.YtfkloilbjfleeaaDoorSma
import Derived.Laws.CopyOwn
namespace Go.Proofs.YtfkloilbjfleeaaDoor
open Go.RowKit
set_option linter.unusedVariables false

theorem owns_full {w : World} {base g n : Nat} {e : TypeId} {xs : List Value} (h : w.ownsRow base e 1 (.slice (some ⟨g, 0, none⟩) n n) n xs) (hn : 1 ≤ n) : w.heap[g]? = some (.cells xs.toArray e (0, 0)) ∧ base ≤ g := by
  rcases h.2 with ⟨h1, _⟩ | ⟨g', cap, cur, hv, hb, hg, _, _, hs, ht⟩
  · cases h1
  · cases hv
    refine ⟨?_, hb⟩
    rw [hg, ← ht, List.take_of_length_le (by rw [Array.length_toList]; omega)]
theorem full_owns {w : World} {base g n : Nat} {e : TypeId} {xs : List Value} (h : w.heap[g]? = some (.cells xs.toArray e (0, 0))) (hl : xs.length = n) (hb : base ≤ g) (hm : n ≤ maxLen) : w.ownsRow base e 1 (.slice (some ⟨g, 0, none⟩) n n) n xs :=
  ⟨by rw [hl, Nat.mul_one], .inr ⟨g, n, xs.toArray, rfl, hb, h, Nat.le_refl _, hm, by rw [List.size_toArray, hl, Nat.mul_one], by rw [List.take_of_length_le (by simp; omega)]⟩⟩
theorem pad_zeros (n : Int) (h0 : 0 ≤ n) (h1 : n ≤ 18446744073709551615) : (IntKind.u64.wrap (-(IntKind.u64.wrap (IntKind.u64.wrap (n + 1) + 8)))).tmod 64 = (padZ n : Int) := by
  rw [IntKind.wrap_u64, IntKind.wrap_u64, IntKind.wrap_u64, Int.tmod_eq_emod_of_nonneg (by omega)]
  unfold padZ; omega
theorem pad_row (n : Int) : splice (bv (128 :: List.replicate (padZ n + 8) 0)) (1 + padZ n) (bv (putL (8 * n % 18446744073709551616) 8)) = bv (padL n) := by
  unfold splice padL
  rw [bv_length, putL_length, ← List.append_assoc]
  have e1 : (bv (128 :: List.replicate (padZ n + 8) 0)).take (1 + padZ n) = bv (128 :: List.replicate (padZ n) 0) := by
    unfold bv; rw [← List.map_take, show 1 + padZ n = padZ n + 1 from by omega, List.take_succ_cons, List.take_replicate]
    congr 2; congr 1; omega
  have e2 : (bv (128 :: List.replicate (padZ n + 8) 0)).drop (1 + padZ n + 8) = [] := by
    apply List.drop_eq_nil_of_le; rw [bv_length]; simp; omega
  rw [e1, e2, List.append_nil, ← bv_append]
theorem pad_set (k : Nat) : (List.replicate (k + 9) (Value.int .u8 0)).set 0 (.int .u8 128) = bv (128 :: List.replicate (k + 8) 0) := by
  rw [show k + 9 = k + 8 + 1 from rfl, List.replicate_succ, List.set_cons_zero]; unfold bv; simp
theorem pad_off (z : Nat) : (1 + (z : Int)).toNat = 1 + z := by omega
theorem pad_min (z : Nat) {l : List Value} (h : l.length = 8) : l.length = Nat.min 8 (z + 9 - (1 + (z : Int)).toNat) := by
  rw [pad_off, h, show z + 9 - (1 + z) = 8 from by omega]; rfl
theorem pad_pos {w : World} {N z : Nat} {ad : Addr} {cs : List Value} (h : ∀ j v, cs[j]? = some v → w.cell? (ad.add j) = some v) :
    0 < cs.length → some (⟨N, (1 + (z : Int)).toNat, none⟩ : Addr) = some ⟨N, 1 + z, none⟩ ∧ ∃ a, some ad = some a ∧ ∀ j v, cs[j]? = some v → w.cell? (a.add j) = some v :=
  fun _ => ⟨by rw [pad_off], ad, rfl, h⟩
theorem Tryd.size5 : (Tryd.prog.info? 5).map (·.size) = some 1 := by kernel_rfl

set_option maxRecDepth 100000 in
set_option maxHeartbeats 400000 in
theorem pad_any (n : Int) (w : World) (h0 : 0 ≤ n) (h1 : n ≤ 18446744073709551615) :
    Calls Tryd.prog 71 #[.int .u64 n] w fun e w' => ∃ v, e = .returned v ∧ w'.ownsRow w.heap.size 5 1 v (padL n).length (bv (padL n)) ∧ Below w.heap.size w w' := by
  obtain ⟨i0, hi, hz0, hz1, hz2⟩ := info_parts Tryd.info5
  have hz := padZ_le n
  have hzz := pad_zeros n h0 h1
  have HP := pad_row n
  have HPL := padL_length n
  obtain ⟨z, hzd⟩ : ∃ z, z = padZ n := ⟨_, rfl⟩
  rw [← hzd] at hz hzz HP HPL
  replace HP : Hid (splice (bv (128 :: List.replicate (z + 8) 0)) (1 + z) (bv (putL (8 * n % 18446744073709551616) 8)) = bv (padL n)) := HP
  replace HPL : Hid ((padL n).length = z + 9) := HPL
  clear hzd
  have h8n : IntKind.u64.wrap (8 * n) = 8 * n % 18446744073709551616 := IntKind.wrap_u64 _
  go_enter Tryd.func71, Tryd.ntmps71
  go_wp2_with (at_make; refine wpList_make_full _ rfl _ _ 22 rfl w.heap.size 5 i0 (.int .u8 0) 1 Tryd.underlying22 hi hz0 hz1 _ _ _ _ (z + 9) rfl rfl (by omega) (by omega) (by rw [hz2]; omega) (by unfold maxLen; omega) (Nat.le_refl _) ?_)
  intro w1 hown hgrow
  rw [toList_madeCells_one] at hown
  have hb1 : Below w.heap.size w w1 := (Below.refl _ _).grown hgrow (Nat.le_refl _) (by intro k hk; cases hk)
  obtain ⟨c0, hc⟩ := owns_cell hown 0 (by omega)
  have hf := hown.frozenAt 0
  have hst := hown.stored 0 (.int .u8 128)
  rw [pad_set z] at hst
  have hb2 := hb1.grown hst.2 hb1.size (by intro j hj; cases hj; exact Nat.le_refl _)
  have hown2 := hst.1
  obtain ⟨hrow, _⟩ := owns_full hown2 (by omega)
  clear hgrow hi hz0 hz1 hz2 hown hst hown2
  go_wp2
  generalize w1.setCell ⟨w.heap.size, 0, none⟩ (.int .u8 128) = w2 at hb2 hrow ⊢
  clear hb1 hc hf
  have z1 : (0 : Int) ≤ 1 + (z : Int) := by omega
  have z2 : 1 + (z : Int) ≤ (z : Int) + 9 := by omega
  have z3 : IntKind.u64.wrap (1 + (z : Int)) = 1 + (z : Int) := by rw [IntKind.wrap_u64]; omega
  have hd := hb2.drew
  have hrd : w2.drew.heap[w.heap.size]? = some (.cells (bv (128 :: List.replicate (z + 8) 0)).toArray 5 (0, 0)) := hrow
  have hlt : w.heap.size < w2.drew.heap.size := (Array.getElem?_eq_some_iff.1 hrd).1
  have HL2 : Hid ((bv (128 :: List.replicate (z + 8) 0)).length = z + 9) := by show _ = _; rw [bv_length]; simp
  have HQ : Hid ((bv (putL (8 * n % 18446744073709551616) 8)).length = 8) := by show _ = _; rw [bv_length, putL_length]
  clear hd hrd
  go_region_held3 (fun _ => True) (trivial) (first | (go_at_call 72; refine (put_some (8 * n % 18446744073709551616) 8 _ (by decide) (by decide) (by omega) (by omega)).mono ?_; rintro e w3 ⟨v3, rfl, hown3, hb3⟩; obtain ⟨a3, cap3, rfl, hm3⟩ := Bts.of_owns hown3 (putL_byt _ _); obtain ⟨g3, o3, rfl, _, _⟩ := hm3.spot (by decide); have hcl := hm3.cells; have hg3 := (hb3.block _ hlt).trans hrow; have hB3 := hb2.drew.trans (hb3.mono (Nat.le_of_lt hlt)); clear hown3 hm3 hb3) | (refine step_copy_splice rfl (.tmp 19) (.tmp 22) 22 22 rfl 5 Tryd.underlying22 Tryd.size5 _ _ _ _ _ _ (by rfl) (by rfl) w.heap.size (1 + z) (bv (128 :: List.replicate (z + 8) 0)) 5 hg3 (bv (putL (8 * n % 18446744073709551616) 8)) (pad_min z HQ.out) (pad_pos hcl) (by rw [HQ.out, HL2.out]; omega) (bv_one _) w.heap.size w hB3 (Nat.le_refl _) ?_; intro w4 hg4 hb4))
  have hfin : w4.ownsRow w.heap.size 5 1 (.slice (some ⟨w.heap.size, 0, none⟩) (z + 9) (z + 9)) (padL n).length (bv (padL n)) := by
    have h4 := hg4.out
    rw [HP.out] at h4
    rw [HPL.out]
    exact full_owns h4 (by rw [bv_length, HPL.out]) (Nat.le_refl _) (by unfold maxLen; omega)
  clear hg4 hcl hg3 hB3 hrow hlt HP
  go_wp2
  go_ret
  exact ⟨_, rfl, hfin, hb4⟩
end Go.Proofs.YtfkloilbjfleeaaDoor
