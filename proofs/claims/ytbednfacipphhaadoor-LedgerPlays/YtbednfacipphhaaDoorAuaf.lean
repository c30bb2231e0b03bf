/- What the document's padded and with answer. The first bits of a sum: merkle's Cut, and the document's own. -/
import Derived.Test.YtbednfacipphhaaDoorAuav
import Derived.Test.YtbednfacipphhaaDoorRefSum
import Derived.Test.YtbednfacipphhaaDoorMacMask
import Derived.Test.YtbednfacipphhaaDoorAuar
import Derived.Test.YtbednfacipphhaaDoorAuau
namespace Go.Proofs.YtbednfacipphhaaDoor
open Go.RowKit
set_option linter.unusedVariables false

set_option maxRecDepth 100000 in
theorem app_rel {B n : Nat} {w wr w1 : World} {l : List Int} {c : Int} {v v' : Value} {o : Obj} (hb : Below B w wr) (hB : B ≤ wr.heap.size)
    (hown : wr.ownsRow B 5 1 v n (bv l)) (h1 : w1.ownsRow B 5 1 v' (n + 1) (bv l ++ [.int .u8 c])) (hg : (wr.alloc o).grownBy w1 v.ownBlock) :
    w1.ownsRow B 5 1 v' (n + 1) (bv (l ++ [c])) ∧ Below B w w1 := by
  refine ⟨by rw [bv_append]; exact h1, ?_⟩
  refine (hb.alloc hB o).grown hg (by simp; omega) ?_
  intro g hg'
  exact (hown.lt g hg').1
set_option maxRecDepth 100000 in
theorem zero_more (k : List Int) (j : Nat) : (k ++ List.replicate j 0) ++ [(0 : Int)] = k ++ List.replicate (j + 1) 0 := by
  rw [List.append_assoc, List.replicate_succ']

set_option maxRecDepth 100000 in
/-- the loop's end: the row is the block -/
theorem fil_of {k : List Int} {j : Nat} (h : k.length + j = 64) : k ++ List.replicate j 0 = fil k := by
  unfold fil; congr 2; omega
set_option maxRecDepth 100000 in
set_option maxHeartbeats 1000000 in
theorem refpadded_any (a : Option Addr) (len cap : Nat) (k : List Int) (w : World) (hk : Bts w a len cap k) (hbd : len ≤ 1099511627776) :
    Calls Tryd.prog 47 #[.slice a len cap] w fun e w' => ∃ v, e = .returned v ∧ w'.ownsRow w.heap.size 5 1 v 64 (bv (blkK k)) ∧ Below w.heap.size w w' := by
  have hlen := hk.len_eq
  obtain ⟨i0, hi, hz0, hz1, hz2⟩ := info_parts Tryd.info5
  go_enter Tryd.func47, Tryd.ntmps47
  go_wp2_with fail
  refine (copy_any a len cap k _ hk (by omega)).mono ?_
  rintro e w1 ⟨v1, rfl, hown1, hb1⟩
  obtain ⟨a1, c1, rfl, hm1⟩ := Bts.of_owns hown1 hk.byt
  by_cases hlong : 64 < len
  · have hgt : (64 : Int) < (len : Int) := by omega
    go_wp2_with fail
    refine (refsum_any _ _ _ k _ hm1 hbd).mono ?_
    rintro e w2 ⟨rfl, hb2⟩
    have HKK : Hid (keyP k = sumL k) := keyP_long (by omega)
    have hl := sumL_length k
    have hby := sumL_byt k
    generalize sumL k = m at hl hby HKK ⊢
    generalize hDD : (bv m).toArray = D
    obtain ⟨hdv, hth, hinf, hone⟩ := dig_var w2 m hl D hDD.symm
    have HTH : Bx ((w2.alloc (.cells #[.int .u8 0, .int .u8 0, .int .u8 0, .int .u8 0, .int .u8 0, .int .u8 0, .int .u8 0, .int .u8 0, .int .u8 0, .int .u8 0, .int .u8 0, .int .u8 0, .int .u8 0, .int .u8 0, .int .u8 0, .int .u8 0, .int .u8 0, .int .u8 0, .int .u8 0, .int .u8 0, .int .u8 0, .int .u8 0, .int .u8 0, .int .u8 0, .int .u8 0, .int .u8 0, .int .u8 0, .int .u8 0, .int .u8 0, .int .u8 0, .int .u8 0, .int .u8 0] 30)).there w2.heap.size 0 D.size) := ⟨hth⟩
    have HDV : Bx (DV w2 ((w2.alloc (.cells #[.int .u8 0, .int .u8 0, .int .u8 0, .int .u8 0, .int .u8 0, .int .u8 0, .int .u8 0, .int .u8 0, .int .u8 0, .int .u8 0, .int .u8 0, .int .u8 0, .int .u8 0, .int .u8 0, .int .u8 0, .int .u8 0, .int .u8 0, .int .u8 0, .int .u8 0, .int .u8 0, .int .u8 0, .int .u8 0, .int .u8 0, .int .u8 0, .int .u8 0, .int .u8 0, .int .u8 0, .int .u8 0, .int .u8 0, .int .u8 0, .int .u8 0, .int .u8 0] 30)).setCells w2.heap.size 0 D.toList) m) := ⟨hdv⟩
    have HINF : Bx ((Tryd.prog.info? 30).map (·.size) = some D.size) := ⟨hinf⟩
    have HONE : Bx (D.all (·.oneCell') = true) := ⟨hone⟩
    have hda := dig_all w2.heap.size
    have hb12 := bstep hb1 hb2
    clear hdv hth hinf hone hDD hown1 hm1 hb1 hb2
    go_wp2_with (refine wpList_store_mid rfl 30 (.tmp 4) (.tmp 11) rfl w2.heap.size 0 D rfl rfl HTH.out HINF.out HONE.out ?_; have hdv := HDV.out; generalize (w2.alloc (.cells #[.int .u8 0, .int .u8 0, .int .u8 0, .int .u8 0, .int .u8 0, .int .u8 0, .int .u8 0, .int .u8 0, .int .u8 0, .int .u8 0, .int .u8 0, .int .u8 0, .int .u8 0, .int .u8 0, .int .u8 0, .int .u8 0, .int .u8 0, .int .u8 0, .int .u8 0, .int .u8 0, .int .u8 0, .int .u8 0, .int .u8 0, .int .u8 0, .int .u8 0, .int .u8 0, .int .u8 0, .int .u8 0, .int .u8 0, .int .u8 0, .int .u8 0, .int .u8 0] 30)).setCells w2.heap.size 0 D.toList = w3 at hdv ⊢; clear HDV HTH)
    have hm3 := hdv.bts hby hl
    have hb3 := bstep hb12 hdv.low
    refine (copy_any _ _ _ m _ hm3 (by decide)).mono ?_
    rintro e w4 ⟨v4, rfl, hown4, hb4⟩
    have hb5 := bstep hb3 hb4
    have hown5 := owns_base hown4 (base' := w.heap.size) hb3.size
    have HLm : Hid (m.length = 32) := hl
    clear hm3 hb3 hdv hb4 hown4 hb12 hda HINF HONE hl
    go_wp2
    go_loopw [3] (fun v wr => ∃ j : Nat, j ≤ 32 ∧ wr.ownsRow w.heap.size 5 1 v (32 + j) (bv (m ++ List.replicate j 0)) ∧ Below w.heap.size w wr) (fun v _ => 64 - lenOf v)
    case atStart => exact ⟨0, Nat.zero_le _, by rw [List.replicate_zero, List.append_nil]; exact hown5, hb5⟩
    case round =>
      clear hown5 hb5
      obtain ⟨j, hj, hown, hb⟩ := hrel
      obtain ⟨g, cp, rfl, hg0, hg1⟩ := owns_form hown (by omega)
      by_cases hlt : j < 32
      · have hc : ((32 + j : Nat) : Int) < 64 := by omega
        go_wp2_with (at_builtin; refine wpList_append_own _ rfl _ _ 22 rfl w.heap.size 5 i0 (.int .u8 0) 1 1 Tryd.underlying22 hi hz0 hz1 hz2 rfl (by decide) _ _ _ rfl (hown.alloc _) ⟨wr.heap.size, 0, none⟩ 1 1 [.int .u8 0] rfl rfl (cell_one_new _ _ _) (bv_one [0]) (by unfold maxLen; omega) (by omega) (by have := hb.size; simp; omega) ?_)
        intro v' w5 hown' hgrow _
        have R := app_rel hb hb.size hown hown' hgrow
        rw [zero_more] at R
        have HL : Hid (lenOf v' = 32 + j + 1) := by obtain ⟨g', cap', rfl, _, _⟩ := owns_form hown' (by omega); rfl
        clear hown' hgrow hown hb
        go_wp2
        go_roundw
        case rel => exact ⟨j + 1, by omega, R.1, R.2⟩
        case measure => rw [HL.out]; simp [lenOf]; omega
      · have hc : ¬ ((32 + j : Nat) : Int) < 64 := by omega
        have HE : Hid (m ++ List.replicate j 0 = blkK k) := by show _ = _; rw [fil_of (by rw [HLm.out]; omega)]; unfold blkK; rw [HKK.out]
        have HJ : Hid (32 + j = 64) := by show _ = _; omega
        rw [HE.out, HJ.out] at hown
        rw [HJ.out]
        go_wp2
        go_ret
        exact ⟨_, rfl, hown, hb⟩
  · have hgt : ¬ (64 : Int) < (len : Int) := by omega
    have HKK : Hid (keyP k = k) := keyP_short (by omega)
    have HLm : Hid (k.length = len) := hlen
    have hby := hk.byt
    clear hm1 hlen hk
    go_wp2
    go_loopw [3] (fun v wr => ∃ j : Nat, len + j ≤ 64 ∧ wr.ownsRow w.heap.size 5 1 v (len + j) (bv (k ++ List.replicate j 0)) ∧ Below w.heap.size w wr) (fun v _ => 64 - lenOf v)
    case atStart => exact ⟨0, by omega, by rw [List.replicate_zero, List.append_nil]; exact hown1, hb1⟩
    case round =>
      clear hown1 hb1
      obtain ⟨j, hj, hown, hb⟩ := hrel
      obtain ⟨ao, cp, rfl, hbt⟩ := Bts.of_owns hown (hby.append (zeros_byt j))
      clear hbt
      by_cases hlt : len + j < 64
      · have hc : ((len + j : Nat) : Int) < 64 := by omega
        go_wp2_with (at_builtin; refine wpList_append_own _ rfl _ _ 22 rfl w.heap.size 5 i0 (.int .u8 0) 1 1 Tryd.underlying22 hi hz0 hz1 hz2 rfl (by decide) _ _ _ rfl (hown.alloc _) ⟨wr.heap.size, 0, none⟩ 1 1 [.int .u8 0] rfl rfl (cell_one_new _ _ _) (bv_one [0]) (by unfold maxLen; omega) (by omega) (by have := hb.size; simp; omega) ?_)
        intro v' w5 hown' hgrow _
        have R := app_rel hb hb.size hown hown' hgrow
        rw [zero_more] at R
        have HL : Hid (lenOf v' = len + j + 1) := by obtain ⟨g', cap', rfl, _, _⟩ := owns_form hown' (by omega); rfl
        clear hown' hgrow hown hb
        go_wp2
        go_roundw
        case rel => exact ⟨j + 1, by omega, R.1, R.2⟩
        case measure => rw [HL.out]; simp [lenOf]; omega
      · have hc : ¬ ((len + j : Nat) : Int) < 64 := by omega
        have HE : Hid (k ++ List.replicate j 0 = blkK k) := by show _ = _; rw [fil_of (by rw [HLm.out]; omega)]; unfold blkK; rw [HKK.out]
        have HJ : Hid (len + j = 64) := by show _ = _; omega
        have hfin : wr.ownsRow w.heap.size 5 1 (.slice ao (len + j) cp) 64 (bv (blkK k)) := by
          have h := hown
          rw [HE.out] at h
          have e : ∀ n, n = 64 → wr.ownsRow w.heap.size 5 1 (.slice ao n cp) n (bv (blkK k)) → wr.ownsRow w.heap.size 5 1 (.slice ao n cp) 64 (bv (blkK k)) := by intro n hn h; subst hn; exact h
          exact e _ HJ.out h
        clear hown
        go_wp2
        go_ret
        exact ⟨_, rfl, hfin, hb⟩
set_option maxRecDepth 100000 in
set_option maxHeartbeats 1000000 in
theorem refwith_any (a : Option Addr) (len cap : Nat) (b : List Int) (x : Int) (w : World) (hb : Bts w a len cap b) (hx : 0 ≤ x ∧ x ≤ 255) (hbd : len ≤ 1099511627776) :
    Calls Tryd.prog 48 #[.slice a len cap, .int .u8 x] w fun e w' => ∃ v, e = .returned v ∧ w'.ownsRow w.heap.size 5 1 v len (bv (xorB b x)) ∧ Below w.heap.size w w' := by
  obtain ⟨i0, hi, hz0, hz1, hz2⟩ := info_parts Tryd.info5
  have HL : Hid (b.length = len) := hb.len_eq
  go_enter Tryd.func48, Tryd.ntmps48
  go_wp2
  go_loopw [5, 6] (fun v i wr => ∃ j : Nat, j ≤ len ∧ i = .int .i64 j ∧ wr.ownsRow w.heap.size 5 1 v j (bv (xorB (b.take j) x)) ∧ Below w.heap.size w wr) (fun _ i _ => len - (intOf i).toNat)
  case atStart => exact ⟨0, Nat.zero_le _, rfl, World.ownsRow_nil _ _ _ _, Below.refl _ _⟩
  case round =>
    obtain ⟨j, hj, rfl, hown, hlow⟩ := hrel
    by_cases hlt : j < len
    · have hbj := hb.below hlow
      obtain ⟨sb, so, rfl, _, hc⟩ := hbj.spot (by omega)
      have hcell := hc j hlt
      have HM : Hid (xorB (b.take j) x ++ [xr (b.getD j 0) x] = xorB (b.take (j + 1)) x) := xorB_more b x j (by rw [HL.out]; exact hlt)
      have hy := hb.byt.getD j
      have hxe := xr8_eq hy hx
      have hxb := xr_b hy hx
      generalize b.getD j 0 = y at hcell HM hy hxe hxb
      generalize xr y x = z at HM hxe hxb
      clear hc hbj
      have hji : (j : Int) < (len : Int) := by omega
      go_wp2_with (at_builtin; refine wpList_append_own _ rfl _ _ 22 rfl w.heap.size 5 i0 (.int .u8 0) 1 1 Tryd.underlying22 hi hz0 hz1 hz2 rfl (by decide) _ _ _ rfl (hown.alloc _) ⟨wr.heap.size, 0, none⟩ 1 1 [.int .u8 z] rfl rfl (cell_one_new _ _ _) (bv_one [z]) (by unfold maxLen; omega) (by omega) (by have := hlow.size; simp; omega) ?_)
      intro v' w5 hown' hgrow _
      have R := app_rel hlow hlow.size hown hown' hgrow
      rw [HM.out] at R
      clear hown' hgrow hown hlow hcell
      go_wp2
      go_roundw
      case rel => exact ⟨j + 1, by omega, by go_num, R.1, R.2⟩
      case measure => simp [intOf]; omega
    · have HJ : Hid (j = len) := by show _ = _; omega
      have hc : ¬ (j : Int) < (len : Int) := by omega
      rw [HJ.out, List.take_of_length_le (by rw [HL.out]; exact Nat.le_refl _)] at hown
      go_wp2
      go_ret
      exact ⟨_, rfl, hown, hlow⟩
end Go.Proofs.YtbednfacipphhaaDoor
namespace Go.Proofs.YtbednfacipphhaaDoor
open Go.RowKit
set_option linter.unusedVariables false

/-- what stays while a digest is turned: the row is r, the answer's place is there -/
structure MD (N M : Nat) (r : List Int) (w wr : World) : Prop where
  low : Below N w wr
  row : wr.heap[M]? = some (.cells (bv r).toArray 30 (0, 0))
  len : r.length = 32
set_option maxRecDepth 100000 in
theorem MD.store {N M : Nat} {r : List Int} {w wr : World} (h : MD N M r w wr) (hN : N ≤ M) (j : Nat) (v : Value) (r' : List Int) (hl : r'.length = r.length) (hr : (bv r).toArray.setIfInBounds j v = (bv r').toArray) : MD N M r' w (wr.setCell ⟨M, j, none⟩ v) :=
  ⟨h.low.setCell (p := ⟨M, j, none⟩) hN v, by rw [heap_setCell_same _ _ _ _ _ _ h.row, hr], by rw [hl]; exact h.len⟩
set_option maxRecDepth 100000 in
theorem MD.drewN {N M : Nat} {r : List Int} {w wr : World} (h : MD N M r w wr) (q : Nat) : MD N M r w (wr.drewN q) := ⟨below_drewN h.low q, h.row, h.len⟩
/-- the digest behind i rounds -/
def cutP (d : List Int) (n i : Nat) : List Int := (List.range 32).map fun j => if j < i then bc (d.getD j 0) (min (n - 8 * j) 8) else d.getD j 0
set_option maxRecDepth 100000 in
theorem cutP_length (d : List Int) (n i : Nat) : (cutP d n i).length = 32 := by simp [cutP]
set_option maxRecDepth 100000 in
theorem cutP_at (d : List Int) (n i j : Nat) (hj : j < 32) : (cutP d n i)[j]? = some (if j < i then bc (d.getD j 0) (min (n - 8 * j) 8) else d.getD j 0) := by
  unfold cutP; rw [List.getElem?_map, List.getElem?_range hj]; rfl
set_option maxRecDepth 100000 in
theorem cutP_get (d : List Int) (n i : Nat) (hi : i < 32) : (cutP d n i).getD i 0 = d.getD i 0 := by
  rw [List.getD_eq_getElem?_getD, cutP_at d n i i hi, if_neg (by omega)]; rfl
set_option maxRecDepth 100000 in
theorem cutP_zero (d : List Int) (n : Nat) (hd : d.length = 32) : cutP d n 0 = d := by
  apply List.ext_getElem?
  intro j
  by_cases hj : j < 32
  · rw [cutP_at d n 0 j hj, if_neg (by omega), List.getD_eq_getElem?_getD, List.getElem?_eq_getElem (by omega)]; rfl
  · rw [List.getElem?_eq_none (by rw [cutP_length]; omega), List.getElem?_eq_none (by omega)]
set_option maxRecDepth 100000 in
theorem cutP_end (d : List Int) (n i : Nat) (hi : 32 ≤ i) : cutP d n i = cutN d n := by
  unfold cutP cutN
  refine List.map_congr_left (fun j hj => ?_)
  rw [if_pos (by have := List.mem_range.1 hj; omega)]
set_option maxRecDepth 100000 in
theorem cutP_set (d : List Int) (n i : Nat) (hi : i < 32) : (cutP d n i).set i (bc (d.getD i 0) (min (n - 8 * i) 8)) = cutP d n (i + 1) := by
  apply List.ext_getElem?
  intro j
  by_cases hj : j < 32
  · rw [List.getElem?_set, cutP_at d n (i + 1) j hj]
    by_cases h : i = j
    · subst h; rw [if_pos rfl, if_pos (by rw [cutP_length]; omega), if_pos (by omega)]
    · rw [if_neg h, cutP_at d n i j hj]
      by_cases h2 : j < i
      · rw [if_pos h2, if_pos (by omega)]
      · rw [if_neg h2, if_neg (by omega)]
  · rw [List.getElem?_eq_none (by rw [List.length_set, cutP_length]; omega), List.getElem?_eq_none (by rw [cutP_length]; omega)]
set_option maxRecDepth 100000 in
theorem byt_set (l : List Int) (i : Nat) (c : Int) : (bv l).toArray.setIfInBounds i (.int .u8 c) = (bv (l.set i c)).toArray := by
  rw [List.setIfInBounds_toArray]; unfold bv; rw [List.map_set]

set_option maxRecDepth 100000 in
theorem and_bc : ∀ c : Fin 256, ∀ k : Fin 9, bits BinOp.and IntKind.u8 (c.val : Int) (255 * 2 ^ (8 - k.val) % 256) = bc (c.val : Int) k.val := by decide +kernel
set_option maxRecDepth 100000 in
theorem MD.drew {N M : Nat} {r : List Int} {w wr : World} (h : MD N M r w wr) : MD N M r w wr.drew := h.drewN 1

set_option maxRecDepth 100000 in
set_option maxHeartbeats 1000000 in
theorem mcut_any (d : List Int) (x : Int) (w : World) (hd : Dg d) :
    Calls Tryd.prog 59 #[.agg (bv d).toArray, .int .i64 x] w fun e w' => e = .returned (.agg (bv (cutL d x)).toArray) ∧ Below w.heap.size w w' := by
  have HL : Hid (d.length = 32) := hd.1
  have hb := hd.2
  obtain ⟨M, hM, hM2⟩ : ∃ M : Int, (if x < 0 then 0 else x) = M ∧ M = max x 0 := ⟨_, rfl, by split <;> omega⟩
  obtain ⟨n, hz, hz2⟩ : ∃ n : Nat, (if 256 < M then 256 else M) = (n : Int) ∧ n = nb x := ⟨nb x, by unfold nb; split <;> omega, rfl⟩
  have hn : n ≤ 256 := by rw [hz2]; exact nb_le x
  have HC : Bx (cutL d x = cutN d n) := ⟨by rw [hz2]; rfl⟩
  clear hz2 hM2
  go_enter Tryd.func59, Tryd.ntmps59
  go_wp2
  clear hM hz
  obtain ⟨N, hN⟩ : ∃ N, N = w.heap.size := ⟨_, rfl⟩
  have hrow : MD N N d w ((w.alloc (.cells (bv d).toArray 30)).alloc (.cells #[.int .u8 0, .int .u8 0, .int .u8 0, .int .u8 0, .int .u8 0, .int .u8 0, .int .u8 0, .int .u8 0, .int .u8 0, .int .u8 0, .int .u8 0, .int .u8 0, .int .u8 0, .int .u8 0, .int .u8 0, .int .u8 0, .int .u8 0, .int .u8 0, .int .u8 0, .int .u8 0, .int .u8 0, .int .u8 0, .int .u8 0, .int .u8 0, .int .u8 0, .int .u8 0, .int .u8 0, .int .u8 0, .int .u8 0, .int .u8 0, .int .u8 0, .int .u8 0] 30)) := by
    subst hN
    refine ⟨((Below.refl _ _).alloc (Nat.le_refl _) _).alloc (by simp) _, ?_, HL.out⟩
    rw [heap_alloc_old _ _ (by simp), heap_alloc_new]
  have hres : ∃ cs : Array Value, cs.size = 32 ∧ ((w.alloc (.cells (bv d).toArray 30)).alloc (.cells #[.int .u8 0, .int .u8 0, .int .u8 0, .int .u8 0, .int .u8 0, .int .u8 0, .int .u8 0, .int .u8 0, .int .u8 0, .int .u8 0, .int .u8 0, .int .u8 0, .int .u8 0, .int .u8 0, .int .u8 0, .int .u8 0, .int .u8 0, .int .u8 0, .int .u8 0, .int .u8 0, .int .u8 0, .int .u8 0, .int .u8 0, .int .u8 0, .int .u8 0, .int .u8 0, .int .u8 0, .int .u8 0, .int .u8 0, .int .u8 0, .int .u8 0, .int .u8 0] 30)).heap[N + 1]? = some (.cells cs 30 (0, 0)) := by
    subst hN
    exact ⟨#[.int .u8 0, .int .u8 0, .int .u8 0, .int .u8 0, .int .u8 0, .int .u8 0, .int .u8 0, .int .u8 0, .int .u8 0, .int .u8 0, .int .u8 0, .int .u8 0, .int .u8 0, .int .u8 0, .int .u8 0, .int .u8 0, .int .u8 0, .int .u8 0, .int .u8 0, .int .u8 0, .int .u8 0, .int .u8 0, .int .u8 0, .int .u8 0, .int .u8 0, .int .u8 0, .int .u8 0, .int .u8 0, .int .u8 0, .int .u8 0, .int .u8 0, .int .u8 0], rfl, by rw [show w.heap.size + 1 = (w.alloc (.cells (bv d).toArray 30)).heap.size from by simp, heap_alloc_new]⟩
  generalize (w.alloc (.cells (bv d).toArray 30)).alloc (.cells #[.int .u8 0, .int .u8 0, .int .u8 0, .int .u8 0, .int .u8 0, .int .u8 0, .int .u8 0, .int .u8 0, .int .u8 0, .int .u8 0, .int .u8 0, .int .u8 0, .int .u8 0, .int .u8 0, .int .u8 0, .int .u8 0, .int .u8 0, .int .u8 0, .int .u8 0, .int .u8 0, .int .u8 0, .int .u8 0, .int .u8 0, .int .u8 0, .int .u8 0, .int .u8 0, .int .u8 0, .int .u8 0, .int .u8 0, .int .u8 0, .int .u8 0, .int .u8 0] 30) = W0 at hrow hres ⊢
  rw [← hN]
  have HN : Hid (N = w.heap.size) := hN
  clear hN
  go_loopw [10] (fun i wr => ∃ j : Nat, j ≤ 32 ∧ i = .int .i64 j ∧ MD N N (cutP d n j) w wr ∧ ∃ cs : Array Value, cs.size = 32 ∧ wr.heap[N + 1]? = some (.cells cs 30 (0, 0))) (fun i _ => 32 - (intOf i).toNat)
  case atStart => exact ⟨0, Nat.zero_le _, rfl, by rw [cutP_zero d n HL.out]; exact hrow, hres⟩
  case round =>
    clear hrow hres
    obtain ⟨j, hj, rfl, hk, cs, hcs, hr⟩ := hrel
    by_cases hlt : j < 32
    · have hc := bv_cell hk.row j (by rw [cutP_length]; exact hlt)
      rw [cutP_get d n j hlt] at hc
      have hf := frozen_of_row _ _ j _ _ hk.row
      obtain ⟨A, hA, hA2⟩ : ∃ A : Int, (if (n : Int) - 8 * (j : Int) < 0 then 0 else (n : Int) - 8 * (j : Int)) = A ∧ A = max ((n : Int) - 8 * (j : Int)) 0 := ⟨_, rfl, by split <;> omega⟩
      obtain ⟨k, hk1, hk2⟩ : ∃ k : Nat, (if 8 < A then 8 else A) = (k : Int) ∧ k = min (n - 8 * j) 8 := ⟨min (n - 8 * j) 8, by split <;> omega, rfl⟩
      have hst := hk.store (Nat.le_refl _) j _ (cutP d n (j + 1)) (by rw [cutP_length, cutP_length]) (by rw [byt_set, cutP_set d n j hlt])
      have hr2 : ∃ cs : Array Value, cs.size = 32 ∧ (wr.setCell ⟨N, j, none⟩ (.int .u8 (bc (d.getD j 0) (min (n - 8 * j) 8)))).heap[N + 1]? = some (.cells cs 30 (0, 0)) := ⟨cs, hcs, by rw [heap_setCell_other _ _ _ _ (by show N + 1 ≠ N; omega)]; exact hr⟩
      rw [← hk2] at hst hr2
      have hk8 : k ≤ 8 := by omega
      have hy := hb.getD j
      generalize d.getD j 0 = y at hc hst hr2 hy
      clear hk2 hA2
      have j0 : (0 : Int) ≤ (j : Int) := by omega
      have j64 : (j : Int) < 32 := by omega
      have h8k : IntKind.i64.wrap (8 - (k : Int)) = 8 - (k : Int) := IntWalk.i64_in _ (by omega)
      have hbc : bits BinOp.and IntKind.u8 y (255 * 2 ^ (8 - k) % 256) = bc y k := by
        have h := and_bc ⟨y.toNat, by omega⟩ ⟨k, by omega⟩
        rw [show ((y.toNat : Nat) : Int) = y from by omega] at h
        exact h
      have hbb := bc_b hy k
      obtain ⟨z, hz⟩ : ∃ z, z = bc y k := ⟨_, rfl⟩
      rw [← hz] at hst hr2 hbc hbb
      clear hz hk hr
      have hst' := hst.drew
      have hr3 : ∃ cs : Array Value, cs.size = 32 ∧ (wr.setCell ⟨N, j, none⟩ (.int .u8 z)).drew.heap[N + 1]? = some (.cells cs 30 (0, 0)) := hr2
      clear hst hr2
      go_wp2_with fail
      go_region
      go_wp2
      go_roundw
      case rel => exact ⟨j + 1, by omega, by go_num, hst', hr3⟩
      case measure => simp [intOf]; omega
    · have HJ : Hid (32 ≤ j) := by show 32 ≤ j; omega
      have hrw : wr.heap[N]? = some (.cells (bv (cutL d x)).toArray 30 (0, 0)) := by
        have := hk.row
        rw [cutP_end d n j HJ.out, ← HC.out] at this
        exact this
      have hbl : Below w.heap.size w wr := by rw [← HN.out]; exact hk.low
      have hNs : w.heap.size ≤ N + 1 := by have := HN.out; omega
      have ht := there_row hr
      rw [hcs] at ht
      have HZ : Bx ((bv (cutL d x)).toArray.size = 32) := ⟨by rw [List.size_toArray, bv_length, (cutL_dg hb x).1]⟩
      have HO : Bx ((bv (cutL d x)).toArray.all (·.oneCell') = true) := ⟨all_oneCell_toArray (bv_one _)⟩
      clear hk HJ
      generalize hD : (bv (cutL d x)).toArray = D at hrw HZ HO
      have HD : Bx (Ending.returned (.agg D) = .returned (.agg (bv (cutL d x)).toArray)) := ⟨by rw [hD]⟩
      clear hD
      have HI : Bx ((Tryd.prog.info? 30).map (·.size) = some D.size) := ⟨by rw [HZ.out]; exact dig_info⟩
      have HST : Bx ((wr.setCells (N + 1) 0 D.toList).heap[N + 1]? = some (.cells D 30 (0, 0))) := ⟨heap_stored (vs := D) hr (by rw [hcs, HZ.out])⟩
      have HBS : Bx (Below w.heap.size w (wr.setCells (N + 1) 0 D.toList)) := ⟨below_setCells hbl (N + 1) hNs D.toList 0⟩
      have HTH : Bx (wr.there (N + 1) 0 D.size) := ⟨by rw [HZ.out]; exact ht⟩
      have HRW : Bx (wr.heap[N]? = some (.cells D 30 (0, 0))) := ⟨hrw⟩
      clear hr ht hbl hNs hcs hrw
      go_wp2_with (refine wpList_load_row rfl 30 (.tmp 2) rfl N rfl 30 D (0, 0) _ HRW.out Tryd.underlying30 rfl HI.out ?_; refine wpList_store_mid rfl 30 (.tmp 4) (.tmp 28) rfl (N + 1) 0 D rfl rfl HTH.out HI.out HO.out ?_)
      exact bodyPost_ret (v := .agg D) (results_cell_row rfl _ _ (N + 1) 30 D (0, 0) _ rfl HST.out Tryd.underlying30 rfl HI.out) rfl ⟨HD.out, HBS.out⟩
end Go.Proofs.YtbednfacipphhaaDoor
