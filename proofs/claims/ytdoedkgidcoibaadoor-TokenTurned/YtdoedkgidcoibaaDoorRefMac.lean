/- What the document's padded and with answer. -/
import Derived.Test.YtdoedkgidcoibaaDoorMacMath
import Derived.Test.YtdoedkgidcoibaaDoorRefSum
import Derived.Test.YtdoedkgidcoibaaDoorMacMask
namespace Go.Proofs.YtdoedkgidcoibaaDoor
open Go.RowKit
set_option linter.unusedVariables false

theorem app_rel {B n : Nat} {w wr w1 : World} {l : List Int} {c : Int} {v v' : Value} {o : Obj} (hb : Below B w wr) (hB : B ≤ wr.heap.size)
    (hown : wr.ownsRow B 5 1 v n (bv l)) (h1 : w1.ownsRow B 5 1 v' (n + 1) (bv l ++ [.int .u8 c])) (hg : (wr.alloc o).grownBy w1 v.ownBlock) :
    w1.ownsRow B 5 1 v' (n + 1) (bv (l ++ [c])) ∧ Below B w w1 := by
  refine ⟨by rw [bv_append]; exact h1, ?_⟩
  refine (hb.alloc hB o).grown hg (by simp; omega) ?_
  intro g hg'
  exact (hown.lt g hg').1
theorem zero_more (k : List Int) (j : Nat) : (k ++ List.replicate j 0) ++ [(0 : Int)] = k ++ List.replicate (j + 1) 0 := by
  rw [List.append_assoc, List.replicate_succ']

/-- the loop's end: the row is the block -/
theorem fil_of {k : List Int} {j : Nat} (h : k.length + j = 64) : k ++ List.replicate j 0 = fil k := by
  unfold fil; congr 2; omega
set_option maxRecDepth 100000 in
set_option maxHeartbeats 1000000 in
theorem refpadded_any (a : Option Addr) (len cap : Nat) (k : List Int) (w : World) (hk : Bts w a len cap k) (hbd : len ≤ 1099511627776) :
    Calls Tryd.prog 46 #[.slice a len cap] w fun e w' => ∃ v, e = .returned v ∧ w'.ownsRow w.heap.size 5 1 v 64 (bv (blkK k)) ∧ Below w.heap.size w w' := by
  have hlen := hk.len_eq
  obtain ⟨i0, hi, hz0, hz1, hz2⟩ := info_parts Tryd.info5
  go_enter Tryd.func46, Tryd.ntmps46
  go_wp2_with fail
  refine (copy_any a len cap k _ hk (by omega)).mono ?_
  rintro e w1 ⟨v1, rfl, hown1, hb1⟩
  obtain ⟨a1, c1, rfl, hm1⟩ := Bts.of_owns hown1 hk.byt
  by_cases hlong : 64 < len
  · have hgt : (64 : Int) < (len : Int) := by omega
    go_wp2_with fail
    refine (refsum_any _ _ _ k _ hm1 hbd).mono ?_
    rintro e w2 ⟨rfl, hb2⟩
    have HKK : Hid (keyP k = sumL k) := keyP_long (by omega)
    have hl := sumL_length k
    have hby := sumL_byt k
    generalize sumL k = m at hl hby HKK ⊢
    generalize hDD : (bv m).toArray = D
    obtain ⟨hdv, hth, hinf, hone⟩ := dig_var w2 m hl D hDD.symm
    have HTH : Bx ((w2.alloc (.cells #[.int .u8 0, .int .u8 0, .int .u8 0, .int .u8 0, .int .u8 0, .int .u8 0, .int .u8 0, .int .u8 0, .int .u8 0, .int .u8 0, .int .u8 0, .int .u8 0, .int .u8 0, .int .u8 0, .int .u8 0, .int .u8 0, .int .u8 0, .int .u8 0, .int .u8 0, .int .u8 0, .int .u8 0, .int .u8 0, .int .u8 0, .int .u8 0, .int .u8 0, .int .u8 0, .int .u8 0, .int .u8 0, .int .u8 0, .int .u8 0, .int .u8 0, .int .u8 0] 50)).there w2.heap.size 0 D.size) := ⟨hth⟩
    have HDV : Bx (DV w2 ((w2.alloc (.cells #[.int .u8 0, .int .u8 0, .int .u8 0, .int .u8 0, .int .u8 0, .int .u8 0, .int .u8 0, .int .u8 0, .int .u8 0, .int .u8 0, .int .u8 0, .int .u8 0, .int .u8 0, .int .u8 0, .int .u8 0, .int .u8 0, .int .u8 0, .int .u8 0, .int .u8 0, .int .u8 0, .int .u8 0, .int .u8 0, .int .u8 0, .int .u8 0, .int .u8 0, .int .u8 0, .int .u8 0, .int .u8 0, .int .u8 0, .int .u8 0, .int .u8 0, .int .u8 0] 50)).setCells w2.heap.size 0 D.toList) m) := ⟨hdv⟩
    have HINF : Bx ((Tryd.prog.info? 50).map (·.size) = some D.size) := ⟨hinf⟩
    have HONE : Bx (D.all (·.oneCell') = true) := ⟨hone⟩
    have hda := dig_all w2.heap.size
    have hb12 := bstep hb1 hb2
    clear hdv hth hinf hone hDD hown1 hm1 hb1 hb2
    go_wp2_with (refine wpList_store_mid rfl 50 (.tmp 4) (.tmp 11) rfl w2.heap.size 0 D rfl rfl HTH.out HINF.out HONE.out ?_; have hdv := HDV.out; generalize (w2.alloc (.cells #[.int .u8 0, .int .u8 0, .int .u8 0, .int .u8 0, .int .u8 0, .int .u8 0, .int .u8 0, .int .u8 0, .int .u8 0, .int .u8 0, .int .u8 0, .int .u8 0, .int .u8 0, .int .u8 0, .int .u8 0, .int .u8 0, .int .u8 0, .int .u8 0, .int .u8 0, .int .u8 0, .int .u8 0, .int .u8 0, .int .u8 0, .int .u8 0, .int .u8 0, .int .u8 0, .int .u8 0, .int .u8 0, .int .u8 0, .int .u8 0, .int .u8 0, .int .u8 0] 50)).setCells w2.heap.size 0 D.toList = w3 at hdv ⊢; clear HDV HTH)
    have hm3 := hdv.bts hby hl
    have hb3 := bstep hb12 hdv.low
    refine (copy_any _ _ _ m _ hm3 (by decide)).mono ?_
    rintro e w4 ⟨v4, rfl, hown4, hb4⟩
    have hb5 := bstep hb3 hb4
    have hown5 := owns_base hown4 (base' := w.heap.size) hb3.size
    have HLm : Hid (m.length = 32) := hl
    clear hm3 hb3 hdv hb4 hown4 hb12 hda HINF HONE hl
    go_wp2
    go_loopw [3] (fun v wr => ∃ j : Nat, j ≤ 32 ∧ wr.ownsRow w.heap.size 5 1 v (32 + j) (bv (m ++ List.replicate j 0)) ∧ Below w.heap.size w wr) (fun v _ => 64 - lenOf v)
    case atStart => exact ⟨0, Nat.zero_le _, by rw [List.replicate_zero, List.append_nil]; exact hown5, hb5⟩
    case round =>
      clear hown5 hb5
      obtain ⟨j, hj, hown, hb⟩ := hrel
      obtain ⟨g, cp, rfl, hg0, hg1⟩ := owns_form hown (by omega)
      by_cases hlt : j < 32
      · have hc : ((32 + j : Nat) : Int) < 64 := by omega
        go_wp2_with (at_builtin; refine wpList_append_own _ rfl _ _ 22 rfl w.heap.size 5 i0 (.int .u8 0) 1 1 Tryd.underlying22 hi hz0 hz1 hz2 rfl (by decide) _ _ _ rfl (hown.alloc _) ⟨wr.heap.size, 0, none⟩ 1 1 [.int .u8 0] rfl rfl (cell_one_new _ _ _) (bv_one [0]) (by unfold maxLen; omega) (by omega) (by have := hb.size; simp; omega) ?_)
        intro v' w5 hown' hgrow _
        have R := app_rel hb hb.size hown hown' hgrow
        rw [zero_more] at R
        have HL : Hid (lenOf v' = 32 + j + 1) := by obtain ⟨g', cap', rfl, _, _⟩ := owns_form hown' (by omega); rfl
        clear hown' hgrow hown hb
        go_wp2
        go_roundw
        case rel => exact ⟨j + 1, by omega, R.1, R.2⟩
        case measure => rw [HL.out]; simp [lenOf]; omega
      · have hc : ¬ ((32 + j : Nat) : Int) < 64 := by omega
        have HE : Hid (m ++ List.replicate j 0 = blkK k) := by show _ = _; rw [fil_of (by rw [HLm.out]; omega)]; unfold blkK; rw [HKK.out]
        have HJ : Hid (32 + j = 64) := by show _ = _; omega
        rw [HE.out, HJ.out] at hown
        rw [HJ.out]
        go_wp2
        go_ret
        exact ⟨_, rfl, hown, hb⟩
  · have hgt : ¬ (64 : Int) < (len : Int) := by omega
    have HKK : Hid (keyP k = k) := keyP_short (by omega)
    have HLm : Hid (k.length = len) := hlen
    have hby := hk.byt
    clear hm1 hlen hk
    go_wp2
    go_loopw [3] (fun v wr => ∃ j : Nat, len + j ≤ 64 ∧ wr.ownsRow w.heap.size 5 1 v (len + j) (bv (k ++ List.replicate j 0)) ∧ Below w.heap.size w wr) (fun v _ => 64 - lenOf v)
    case atStart => exact ⟨0, by omega, by rw [List.replicate_zero, List.append_nil]; exact hown1, hb1⟩
    case round =>
      clear hown1 hb1
      obtain ⟨j, hj, hown, hb⟩ := hrel
      obtain ⟨ao, cp, rfl, hbt⟩ := Bts.of_owns hown (hby.append (zeros_byt j))
      clear hbt
      by_cases hlt : len + j < 64
      · have hc : ((len + j : Nat) : Int) < 64 := by omega
        go_wp2_with (at_builtin; refine wpList_append_own _ rfl _ _ 22 rfl w.heap.size 5 i0 (.int .u8 0) 1 1 Tryd.underlying22 hi hz0 hz1 hz2 rfl (by decide) _ _ _ rfl (hown.alloc _) ⟨wr.heap.size, 0, none⟩ 1 1 [.int .u8 0] rfl rfl (cell_one_new _ _ _) (bv_one [0]) (by unfold maxLen; omega) (by omega) (by have := hb.size; simp; omega) ?_)
        intro v' w5 hown' hgrow _
        have R := app_rel hb hb.size hown hown' hgrow
        rw [zero_more] at R
        have HL : Hid (lenOf v' = len + j + 1) := by obtain ⟨g', cap', rfl, _, _⟩ := owns_form hown' (by omega); rfl
        clear hown' hgrow hown hb
        go_wp2
        go_roundw
        case rel => exact ⟨j + 1, by omega, R.1, R.2⟩
        case measure => rw [HL.out]; simp [lenOf]; omega
      · have hc : ¬ ((len + j : Nat) : Int) < 64 := by omega
        have HE : Hid (k ++ List.replicate j 0 = blkK k) := by show _ = _; rw [fil_of (by rw [HLm.out]; omega)]; unfold blkK; rw [HKK.out]
        have HJ : Hid (len + j = 64) := by show _ = _; omega
        have hfin : wr.ownsRow w.heap.size 5 1 (.slice ao (len + j) cp) 64 (bv (blkK k)) := by
          have h := hown
          rw [HE.out] at h
          have e : ∀ n, n = 64 → wr.ownsRow w.heap.size 5 1 (.slice ao n cp) n (bv (blkK k)) → wr.ownsRow w.heap.size 5 1 (.slice ao n cp) 64 (bv (blkK k)) := by intro n hn h; subst hn; exact h
          exact e _ HJ.out h
        clear hown
        go_wp2
        go_ret
        exact ⟨_, rfl, hfin, hb⟩
set_option maxRecDepth 100000 in
set_option maxHeartbeats 1000000 in
theorem refwith_any (a : Option Addr) (len cap : Nat) (b : List Int) (x : Int) (w : World) (hb : Bts w a len cap b) (hx : 0 ≤ x ∧ x ≤ 255) (hbd : len ≤ 1099511627776) :
    Calls Tryd.prog 48 #[.slice a len cap, .int .u8 x] w fun e w' => ∃ v, e = .returned v ∧ w'.ownsRow w.heap.size 5 1 v len (bv (xorB b x)) ∧ Below w.heap.size w w' := by
  obtain ⟨i0, hi, hz0, hz1, hz2⟩ := info_parts Tryd.info5
  have HL : Hid (b.length = len) := hb.len_eq
  go_enter Tryd.func48, Tryd.ntmps48
  go_wp2
  go_loopw [5, 6] (fun v i wr => ∃ j : Nat, j ≤ len ∧ i = .int .i64 j ∧ wr.ownsRow w.heap.size 5 1 v j (bv (xorB (b.take j) x)) ∧ Below w.heap.size w wr) (fun _ i _ => len - (intOf i).toNat)
  case atStart => exact ⟨0, Nat.zero_le _, rfl, World.ownsRow_nil _ _ _ _, Below.refl _ _⟩
  case round =>
    obtain ⟨j, hj, rfl, hown, hlow⟩ := hrel
    by_cases hlt : j < len
    · have hbj := hb.below hlow
      obtain ⟨sb, so, rfl, _, hc⟩ := hbj.spot (by omega)
      have hcell := hc j hlt
      have HM : Hid (xorB (b.take j) x ++ [xr (b.getD j 0) x] = xorB (b.take (j + 1)) x) := xorB_more b x j (by rw [HL.out]; exact hlt)
      have hy := hb.byt.getD j
      have hxe := xr8_eq hy hx
      have hxb := xr_b hy hx
      generalize b.getD j 0 = y at hcell HM hy hxe hxb
      generalize xr y x = z at HM hxe hxb
      clear hc hbj
      have hji : (j : Int) < (len : Int) := by omega
      go_wp2_with (at_builtin; refine wpList_append_own _ rfl _ _ 22 rfl w.heap.size 5 i0 (.int .u8 0) 1 1 Tryd.underlying22 hi hz0 hz1 hz2 rfl (by decide) _ _ _ rfl (hown.alloc _) ⟨wr.heap.size, 0, none⟩ 1 1 [.int .u8 z] rfl rfl (cell_one_new _ _ _) (bv_one [z]) (by unfold maxLen; omega) (by omega) (by have := hlow.size; simp; omega) ?_)
      intro v' w5 hown' hgrow _
      have R := app_rel hlow hlow.size hown hown' hgrow
      rw [HM.out] at R
      clear hown' hgrow hown hlow hcell
      go_wp2
      go_roundw
      case rel => exact ⟨j + 1, by omega, by go_num, R.1, R.2⟩
      case measure => simp [intOf]; omega
    · have HJ : Hid (j = len) := by show _ = _; omega
      have hc : ¬ (j : Int) < (len : Int) := by omega
      rw [HJ.out, List.take_of_length_le (by rw [HL.out]; exact Nat.le_refl _)] at hown
      go_wp2
      go_ret
      exact ⟨_, rfl, hown, hlow⟩
end Go.Proofs.YtdoedkgidcoibaaDoor
