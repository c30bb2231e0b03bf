/- For every two slices of bytes the law MacTwo returns true and the slices read as they did (P3.1): the sum of a text of up to 1000 bytes by a key of up to 64 is two sums, one of the key and the text, one of the key and that. The package's table is as the program's text lays it (the card ties it). -/
import Derived.Test.YtglndmkfkmkngaaDoorDoor
import Derived.Test.YtglndmkfkmkngaaDoorMacCheck
import Derived.Test.YtglndmkfkmkngaaDoorAppBts
import Derived.Test.YtglndmkfkmkngaaDoorCut
import Derived.Deep.AppendLies
import Derived.WalkKit
import Derived.ShutString
import Derived.ChangeOld
import Derived.Below
namespace Go.Proofs.YtglndmkfkmkngaaDoor.macTwo
open Go.ChangeShapes Go.WideShapes Go.ChangeAt Go.RowKit
open Go.ChangeMaps (open_string shut_string)
set_option linter.unusedVariables false

theorem laidOut : laidOutB Tryd.prog = true := by kernel_rfl

/-- WHAT THE WALK IS TOLD OF A SLICE OF INTEGERS THAT CAME IN: it is nil; or it leads to a row of 'cap' cells, the numbers 'zs' (the first 'len' are its elements, the rest its spare room), each fitting its kind. -/
def IsRow (k : IntKind) (w : World) (a : Option Addr) (len cap : Nat) (zs : List Int) : Prop :=
  (a = none ∧ len = 0 ∧ cap = 0 ∧ zs = []) ∨
  ∃ x, a = some x ∧ len ≤ cap ∧ cap ≤ maxLen ∧ zs.length = cap ∧ (∀ i, i < zs.length → w.cell? (x.add i) = some (.int k (zs.getD i 0))) ∧ ∀ n ∈ zs, (Lit.int k n).wf = true


/-- two own rows, apart from one another -/
structure TW (B j : Nat) (X Y : List Int) (vi vo : Value) (w wr : World) : Prop where
  low : Below B w wr
  inn : wr.ownsRow B 5 1 vi j (bv X)
  out : wr.ownsRow B 5 1 vo j (bv Y)
  far : ∀ g, vi.ownBlock = some g → vo.ownBlock ≠ some g
theorem TW.more {B j g1 g2 c1 c2 : Nat} {X Y : List Int} {z1 z2 : Int} {vi vo : Value} {o1 o2 : Obj} {w wr w1 w2 : World} (h : TW B j X Y vi vo w wr) (hB : B ≤ wr.heap.size)
    (h1 : w1.ownsRow B 5 1 (.slice (some ⟨g1, 0, none⟩) (j + 1) c1) (j + 1) (bv X ++ [.int .u8 z1])) (hg1 : (wr.alloc o1).grownBy w1 vi.ownBlock) (ha1 : vi.ownBlock = some g1 ∨ g1 = (wr.alloc o1).heap.size) (hl1 : g1 < w1.heap.size)
    (h2 : w2.ownsRow B 5 1 (.slice (some ⟨g2, 0, none⟩) (j + 1) c2) (j + 1) (bv Y ++ [.int .u8 z2])) (hg2 : (w1.alloc o2).grownBy w2 vo.ownBlock) (ha2 : vo.ownBlock = some g2 ∨ g2 = (w1.alloc o2).heap.size) :
    TW B (j + 1) (X ++ [z1]) (Y ++ [z2]) (.slice (some ⟨g1, 0, none⟩) (j + 1) c1) (.slice (some ⟨g2, 0, none⟩) (j + 1) c2) w w2 := by
  have hne : vo.ownBlock ≠ some g1 := by
    intro e
    rcases ha1 with h1 | h1
    · exact h.far g1 h1 e
    · have := (h.out.lt g1 e).2; simp at h1; omega
  have hz1 : B ≤ w1.heap.size := by have := hg1.size; simp at this; omega
  have b1 : Below B w w1 := (h.low.alloc hB o1).grown hg1 (by simp; omega) (fun k hk => (h.inn.lt k hk).1)
  have b2 : Below B w w2 := (b1.alloc hz1 o2).grown hg2 (by simp; omega) (fun k hk => (h.out.lt k hk).1)
  refine ⟨b2, ?_, by rw [bv_append]; exact h2, ?_⟩
  · rw [bv_append]
    exact (h1.alloc o2).kept hg2 (.inr (fun e => hne (by rw [← e]; rfl)))
  · intro g hg
    have hgg : g1 = g := by simpa [Value.ownBlock] using hg
    subst hgg
    show some g2 ≠ some g1
    rcases ha2 with h2 | h2
    · rw [← h2]; exact hne
    · simp at h2 ⊢; omega
theorem tw_out {B j : Nat} {X Y : List Int} {vi vo : Value} {o1 : Obj} {w wr w1 : World} (h : TW B j X Y vi vo w wr) (hg1 : (wr.alloc o1).grownBy w1 vi.ownBlock) : w1.ownsRow B 5 1 vo j (bv Y) :=
  (h.out.alloc o1).kept hg1 (by
    cases hv : vi.ownBlock with
    | none => cases ho : vo.ownBlock <;> simp
    | some g => exact .inr (h.far g hv))

set_option maxRecDepth 100000 in
set_option maxHeartbeats 1000000 in
theorem walk (a0 : Option Addr) (len0 cap0 : Nat) (z0 : List Int) (a1 : Option Addr) (len1 cap1 : Nat) (z1 : List Int) (w : World) (w0 : IsRow .u8 w a0 len0 cap0 z0) (w1 : IsRow .u8 w a1 len1 cap1 z1) (htab : Tab w) :
    Calls Tryd.prog 8 #[.slice a0 len0 cap0, .slice a1 len1 cap1] w fun e w' => e = .returned (.bool true) ∧ Below w.heap.size w w' := by
  have r0 : Bts w a0 len0 cap0 (z0.take len0) := Bts.of_row w0
  have r1 : Bts w a1 len1 cap1 (z1.take len1) := Bts.of_row w1
  generalize z0.take len0 = l0 at r0
  generalize z1.take len1 = l1 at r1
  clear w0 w1
  obtain ⟨i0, hi, hz0, hz1, hz2⟩ := info_parts Tryd.info5
  go_enter Tryd.func8, Tryd.ntmps8
  go_wp2_with fail
  refine (cut_any a0 len0 cap0 64 l0 _ r0 (by decide)).mono ?_
  rintro e w' ⟨⟨n0, rfl, h0⟩, rfl⟩
  go_wp2_with fail
  refine (cut_any a1 len1 cap1 1000 l1 _ r1 (by decide)).mono ?_
  rintro e w' ⟨⟨n1, rfl, h1⟩, rfl⟩
  have hn0 : n0 ≤ 64 := by have := h0.len_eq; rw [List.length_take] at this; omega
  have hn1 : n1 ≤ 1000 := by have := h1.len_eq; rw [List.length_take] at this; omega
  generalize l0.take 64 = k at h0
  generalize l1.take 1000 = t at h1
  clear r0 r1
  have HKL : Hid (k.length = n0) := h0.len_eq
  have HF : Bx (blkK k = fil k) := ⟨by unfold blkK; rw [keyP_short (by rw [HKL.out]; omega)]⟩
  have HFL : Hid ((fil k).length = 64) := fil_len (by rw [HKL.out]; omega)
  have hbk := h0.byt
  go_wp2
  go_loopw [5, 6, 7] (fun vi vo i wr => ∃ j : Nat, j ≤ 64 ∧ i = .int .i64 j ∧ TW w.heap.size j (xorB ((fil k).take j) 54) (xorB ((fil k).take j) 92) vi vo w wr) (fun _ _ i _ => 64 - (intOf i).toNat)
  case atStart => exact ⟨0, Nat.zero_le _, rfl, Below.refl _ _, World.ownsRow_nil _ _ _ _, World.ownsRow_nil _ _ _ _, fun g hg => by cases hg⟩
  case round =>
    obtain ⟨j, hj, rfl, hT⟩ := hrel
    by_cases hlt : j < 64
    · have HM1 : Hid (xorB ((fil k).take j) 54 ++ [xr ((fil k).getD j 0) 54] = xorB ((fil k).take (j + 1)) 54) := xorB_more _ _ _ (by rw [HFL.out]; exact hlt)
      have HM2 : Hid (xorB ((fil k).take j) 92 ++ [xr ((fil k).getD j 0) 92] = xorB ((fil k).take (j + 1)) 92) := xorB_more _ _ _ (by rw [HFL.out]; exact hlt)
      have HG : Hid ((fil k).getD j 0 = k.getD j 0) := fil_getD k j (by rw [HKL.out]; omega) hlt
      rw [HG.out] at HM1 HM2
      clear HG
      have hy := hbk.getD j
      have e1 := xr8_eq hy (show 0 ≤ (54 : Int) ∧ (54 : Int) ≤ 255 by decide)
      have e2 := xr8_eq hy (show 0 ≤ (92 : Int) ∧ (92 : Int) ≤ 255 by decide)
      have hlow := hT.low
      have hBs := hlow.size
      by_cases hin : j < n0
      · obtain ⟨sb, so, rfl, _, hc⟩ := (h0.below hlow).spot (by omega)
        have hcell := hc j hin
        clear hc
        generalize k.getD j 0 = y at hcell hy e1 e2 HM1 HM2
        generalize xr y 54 = z1 at e1 HM1
        generalize xr y 92 = z2 at e2 HM2
        generalize xorB ((fil k).take j) 54 = X at hT HM1
        generalize xorB ((fil k).take j) 92 = Y at hT HM2
        have HT : Bx (TW w.heap.size j X Y u5 u6 w wr) := ⟨hT⟩
        have hinn := hT.inn
        clear hT
        go_wp2_with (first
          | (at_builtin; refine wpList_append_lies _ rfl (.tmp 26) (.tmp 29) 22 rfl w.heap.size 5 i0 (.int .u8 0) 1 1 Tryd.underlying22 hi hz0 hz1 hz2 rfl (by decide) _ _ _ rfl (hinn.alloc _) ⟨wr.heap.size, 0, none⟩ 1 1 [.int .u8 z1] rfl rfl (cell_one_new _ _ _) (bv_one [z1]) (by decide) (by unfold maxLen; omega) (by omega) (by simp; omega) _ rfl ?_; intro g1 cp1 w1 hown1 hgr1 hat1 hlt1; have hout := tw_out HT.out hgr1; have hz := hgr1.size; have hBs1 : w.heap.size ≤ w1.heap.size := by (simp at hz; omega))
          | (at_builtin; refine wpList_append_lies _ rfl (.tmp 31) (.tmp 34) 22 rfl w.heap.size 5 i0 (.int .u8 0) 1 1 Tryd.underlying22 hi hz0 hz1 hz2 rfl (by decide) _ _ _ rfl (hout.alloc _) ⟨w1.heap.size, 0, none⟩ 1 1 [.int .u8 z2] rfl rfl (cell_one_new _ _ _) (bv_one [z2]) (by decide) (by unfold maxLen; omega) (by omega) (by simp; omega) _ rfl ?_; intro g2 cp2 w2 hown2 hgr2 hat2 hlt2; have hfin := HT.out.more hBs hown1 hgr1 hat1 hlt1 hown2 hgr2 hat2; clear hown1 hgr1 hat1 hlt1 hown2 hgr2 hat2 hlt2 hout hz))
        rw [HM1.out, HM2.out] at hfin
        clear HT hinn HM1 HM2 e1 e2
        go_roundw
        case rel => exact ⟨j + 1, by omega, by go_num, hfin⟩
        case measure => simp [intOf]; omega
      · have hy0 : k.getD j 0 = 0 := by rw [List.getD_eq_getElem?_getD, List.getElem?_eq_none (by rw [HKL.out]; omega)]; rfl
        rw [hy0] at HM1 HM2 e1 e2
        clear hy0 hy
        have hnin : ¬ (j : Int) < (n0 : Int) := by omega
        generalize xr 0 54 = z1 at e1 HM1
        generalize xr 0 92 = z2 at e2 HM2
        generalize xorB ((fil k).take j) 54 = X at hT HM1
        generalize xorB ((fil k).take j) 92 = Y at hT HM2
        have HT : Bx (TW w.heap.size j X Y u5 u6 w wr) := ⟨hT⟩
        have hinn := hT.inn
        clear hT
        go_wp2_with (first
          | (at_builtin; refine wpList_append_lies _ rfl (.tmp 26) (.tmp 29) 22 rfl w.heap.size 5 i0 (.int .u8 0) 1 1 Tryd.underlying22 hi hz0 hz1 hz2 rfl (by decide) _ _ _ rfl (hinn.alloc _) ⟨wr.heap.size, 0, none⟩ 1 1 [.int .u8 z1] rfl rfl (cell_one_new _ _ _) (bv_one [z1]) (by decide) (by unfold maxLen; omega) (by omega) (by simp; omega) _ rfl ?_; intro g1 cp1 w1 hown1 hgr1 hat1 hlt1; have hout := tw_out HT.out hgr1; have hz := hgr1.size; have hBs1 : w.heap.size ≤ w1.heap.size := by (simp at hz; omega))
          | (at_builtin; refine wpList_append_lies _ rfl (.tmp 31) (.tmp 34) 22 rfl w.heap.size 5 i0 (.int .u8 0) 1 1 Tryd.underlying22 hi hz0 hz1 hz2 rfl (by decide) _ _ _ rfl (hout.alloc _) ⟨w1.heap.size, 0, none⟩ 1 1 [.int .u8 z2] rfl rfl (cell_one_new _ _ _) (bv_one [z2]) (by decide) (by unfold maxLen; omega) (by omega) (by simp; omega) _ rfl ?_; intro g2 cp2 w2 hown2 hgr2 hat2 hlt2; have hfin := HT.out.more hBs hown1 hgr1 hat1 hlt1 hown2 hgr2 hat2; clear hown1 hgr1 hat1 hlt1 hown2 hgr2 hat2 hlt2 hout hz))
        rw [HM1.out, HM2.out] at hfin
        clear HT hinn HM1 HM2 e1 e2
        go_roundw
        case rel => exact ⟨j + 1, by omega, by go_num, hfin⟩
        case measure => simp [intOf]; omega
    · have HJ : Hid (j = 64) := by show _ = _; omega
      have HE : Hid ((fil k).take j = blkK k) := by show _ = _; rw [HF.out, List.take_of_length_le (by rw [HFL.out]; omega)]
      rw [HE.out, HJ.out] at hT
      have HMAC : Bx (macL k t = sumL (xorB (blkK k) 92 ++ sumL (xorB (blkK k) 54 ++ t))) := ⟨rfl⟩
      have hXb : Byt (xorB (blkK k) 54) := xorB_byt (blkK_byt hbk) (by decide)
      have hYb : Byt (xorB (blkK k) 92) := xorB_byt (blkK_byt hbk) (by decide)
      have hYl : (xorB (blkK k) 92).length = 64 := by rw [xorB_length, blkK_len]
      generalize xorB (blkK k) 54 = X at hT hXb HMAC
      generalize xorB (blkK k) 92 = Y at hT hYb hYl HMAC
      have hinn := hT.inn
      have hout := hT.out
      have hlow := hT.low
      have HFar : Bx (∀ g, u5.ownBlock = some g → u6.ownBlock ≠ some g) := ⟨hT.far⟩
      have hBs := hlow.size
      have h1r := h1.below hlow
      clear hT HE HF HFL
      go_wp2_with (at_builtin; refine wpList_append_bts rfl (.tmp 36) (.tmp 37) rfl w.heap.size 64 u5 X rfl hinn a1 n1 cap1 t rfl h1r (by omega) hBs ?_)
      intro v3 w3 hown3 hb3 hgr3
      have hout3 : w3.ownsRow w.heap.size 5 1 u6 64 (bv Y) := hout.kept hgr3 (by
        cases hv : u5.ownBlock with
        | none => cases ho : u6.ownBlock <;> simp
        | some g => exact .inr (HFar.out g hv))
      obtain ⟨a3, c3, rfl, hm3⟩ := Bts.of_owns hown3 (hXb.append h1.byt)
      have hlow3 := hlow.trans hb3
      clear hown3 hb3 hgr3 hinn hout hlow h1r HFar
      go_wp2_with fail
      refine (sum_any _ _ _ (X ++ t) _ hm3 (htab.below hlow3) (by omega)).mono ?_
      rintro e w4 ⟨rfl, hb4⟩
      have hl := sumL_length (X ++ t)
      have hby := sumL_byt (X ++ t)
      generalize sumL (X ++ t) = d at hl hby HMAC ⊢
      generalize hDD : (bv d).toArray = D1
      obtain ⟨hdv, hth, hinf, hone⟩ := dig_var w4 d hl D1 hDD.symm
      have hlow4 := bstep hlow3 hb4
      have HTH : Bx ((w4.alloc (.cells #[.int .u8 0, .int .u8 0, .int .u8 0, .int .u8 0, .int .u8 0, .int .u8 0, .int .u8 0, .int .u8 0, .int .u8 0, .int .u8 0, .int .u8 0, .int .u8 0, .int .u8 0, .int .u8 0, .int .u8 0, .int .u8 0, .int .u8 0, .int .u8 0, .int .u8 0, .int .u8 0, .int .u8 0, .int .u8 0, .int .u8 0, .int .u8 0, .int .u8 0, .int .u8 0, .int .u8 0, .int .u8 0, .int .u8 0, .int .u8 0, .int .u8 0, .int .u8 0] 26)).there w4.heap.size 0 D1.size) := ⟨hth⟩
      have HDV : Bx (DV w4 ((w4.alloc (.cells #[.int .u8 0, .int .u8 0, .int .u8 0, .int .u8 0, .int .u8 0, .int .u8 0, .int .u8 0, .int .u8 0, .int .u8 0, .int .u8 0, .int .u8 0, .int .u8 0, .int .u8 0, .int .u8 0, .int .u8 0, .int .u8 0, .int .u8 0, .int .u8 0, .int .u8 0, .int .u8 0, .int .u8 0, .int .u8 0, .int .u8 0, .int .u8 0, .int .u8 0, .int .u8 0, .int .u8 0, .int .u8 0, .int .u8 0, .int .u8 0, .int .u8 0, .int .u8 0] 26)).setCells w4.heap.size 0 D1.toList) d) := ⟨hdv⟩
      have HINF : Bx ((Tryd.prog.info? 26).map (·.size) = some D1.size) := ⟨hinf⟩
      have HONE : Bx (D1.all (·.oneCell') = true) := ⟨hone⟩
      have hout4 := owns_below hout3 hb4
      have hda := dig_all w4.heap.size
      obtain ⟨go, co, rfl, _, _⟩ := owns_form hout4 (by decide)
      clear hdv hth hinf hone hDD hout3 hlow3 hb4 hm3
      go_wp2_with (refine wpList_store_mid rfl 26 (.tmp 9) (.tmp 39) rfl w4.heap.size 0 D1 rfl rfl HTH.out HINF.out HONE.out ?_; have hdv := HDV.out; generalize (w4.alloc (.cells #[.int .u8 0, .int .u8 0, .int .u8 0, .int .u8 0, .int .u8 0, .int .u8 0, .int .u8 0, .int .u8 0, .int .u8 0, .int .u8 0, .int .u8 0, .int .u8 0, .int .u8 0, .int .u8 0, .int .u8 0, .int .u8 0, .int .u8 0, .int .u8 0, .int .u8 0, .int .u8 0, .int .u8 0, .int .u8 0, .int .u8 0, .int .u8 0, .int .u8 0, .int .u8 0, .int .u8 0, .int .u8 0, .int .u8 0, .int .u8 0, .int .u8 0, .int .u8 0] 26)).setCells w4.heap.size 0 D1.toList = w5 at hdv ⊢; clear HDV HTH HINF HONE)
      have hlow5 := bstep hlow4 hdv.low
      have hout5 := owns_drewN (owns_below hout4 hdv.low) 1
      have hdig5 := (hdv.bts hby hl).drewN 1
      have hl0 := below_drewN hlow5 1
      generalize w4.heap.size = Q at hdig5 hda hdv ⊢
      clear hdv hout4 hlow4
      have hYd : Byt (Y ++ d) := hYb.append hby
      have heq := dig_eq (macL k t) (macL_len k t)
      have HC : Bx (∀ w', Below w.heap.size w w' → Calls Tryd.prog 11 #[.slice a0 n0 cap0, .slice a1 n1 cap1] w' fun e w'' => e = .returned (.agg (bv (macL k t)).toArray) ∧ Below w'.heap.size w' w'') := ⟨fun w' h => mac_any _ _ _ _ _ _ k t _ (h0.below h) (h1.below h) (htab.below h) (by omega) (by omega)⟩
      have HS : Bx (∀ w' a' c', Below w.heap.size w w' → Bts w' a' 96 c' (Y ++ d) → Calls Tryd.prog 20 #[.slice a' 96 c'] w' fun e w'' => e = .returned (.agg (bv (macL k t)).toArray) ∧ Below w'.heap.size w' w'') := ⟨fun w' a' c' h hb => by rw [HMAC.out]; exact sum_any _ _ _ _ _ hb (htab.below h) (by decide)⟩
      have HLv : Bx (∀ w', Below w.heap.size w w' → Calls Tryd.prog 14 #[] w' fun e w'' => e = .returned (.bool true) ∧ Below w'.heap.size w' w'') := ⟨fun w' h => lives_any _ (htab.below h)⟩
      generalize (bv (macL k t)).toArray = D at heq HC HS
      have hBs5 := hl0.size
      clear HMAC hXb hYb hl hby
      go_region_held3 (fun w' => Below w.heap.size w w') (first | (exact hl0) | (exact bstep (by assumption) hb6) | (exact Below.trans (by assumption) hb7) | (exact bstep (by assumption) hb8) | (exact bstep (by assumption) hb9)) (first
        | (go_at_call 11; refine (HC.out _ (by assumption)).mono ?_; rintro e6 w6 ⟨rfl, hb6⟩)
        | (refine step_append_bts rfl (.tmp 43) (.tmp 44) rfl w.heap.size 64 (.slice (some ⟨go, 0, none⟩) 64 co) Y rfl hout5 (some ⟨Q, 0, none⟩) 32 32 d rfl hdig5 (by decide) (Below.size (by assumption)) ?_; intro v7 w7 hown7 hb7 _; obtain ⟨a7, c7, rfl, hm7⟩ := Bts.of_owns hown7 hYd)
        | (refine step_append_bts rfl (.tmp 43) (.tmp 44) rfl w.heap.size 64 (.slice (some ⟨go, 0, none⟩) 64 co) Y rfl (owns_below hout5 hb6) (some ⟨Q, 0, none⟩) 32 32 d rfl (hdig5.below hb6) (by decide) (Below.size (by assumption)) ?_; intro v7 w7 hown7 hb7 _; obtain ⟨a7, c7, rfl, hm7⟩ := Bts.of_owns hown7 hYd)
        | (go_at_call 20; refine (HS.out _ _ _ (by assumption) hm7).mono ?_; rintro e8 w8 ⟨rfl, hb8⟩)
        | (go_at_call 20; refine (HS.out _ _ _ (by assumption) (hm7.below hb6)).mono ?_; rintro e8 w8 ⟨rfl, hb8⟩)
        | (go_at_call 14; refine (HLv.out _ (by assumption)).mono ?_; rintro e9 w9 ⟨rfl, hb9⟩))
      rename_i hHeld
      clear HC HS HLv heq hb6 hb7 hb8 hb9 hm7 hown7 hl0 hout5 hdig5
      go_wp2
      go_ret
      exact ⟨rfl, hHeld⟩

/-- what the walk gives, for every argument and every world that holds the table -/
theorem contract (H : Type) (enc : TypeId × Value → H) (W : World) (base : Nat) (args : Array Value) (ds gs : List (DataW H)) (before : List MemPlace)
    (hval0 : ∀ (j : Nat) t v, Tryd.f8.params[j]? = some t → args[j]? = some v → Value.okWide Tryd.prog W .any base t v)
    (hW : DataW.Whole enc Tryd.prog Tryd.f8.params.toList Rows.macTwoSpec.vars false W args.toList ds gs before) (hL : laidMetH Tryd.prog Rows.macTwoRow.laid W) :
    Calls Tryd.prog 8 args W fun e W' => ∃ v, e = .returned v ∧ Rows.macTwoSpec.post enc Tryd.prog Tryd.f8 false true false false W args v W' := by
  have htab := tab_of_laid hL
  have hval : ∀ (j : Nat) t v, Tryd.f8.params[j]? = some t → args[j]? = some v → Value.okWide Tryd.prog W .any base t v := hval0
  have hW' := hW
  obtain ⟨p, q, hA0, hV, rfl, hfz, hnd⟩ := hW
  have hA : DataW.TrodAll enc Tryd.prog W 0 (fun _ => true) true Tryd.f8.params.toList args.toList ds p := hA0
  rw [Tryd.params8] at hA hval
  obtain ⟨v0, vs0, d0, ds0, p0, q0, hargs, rfl, rfl, h0, r0⟩ := trodAll_cons hA
  obtain ⟨v1, vs1, d1, ds1, p1, q1, rfl, rfl, rfl, h1, r1⟩ := trodAll_cons r0
  obtain ⟨rfl, rfl, rfl⟩ := trodAll_nil r1
  obtain rfl : args = #[v0, v1] := by cases args; simp_all
  obtain ⟨rfl, rfl⟩ := trodVars_none hV
  obtain ⟨a0, len0, cap0, rfl⟩ := okWide_slice Tryd.underlying22 (hval 0 22 v0 rfl rfl)
  have k0 := h0
  have lt0 : ∀ x ∈ p0, x.block < W.heap.size := by obtain ⟨m, hm⟩ := k0; exact DataW.trod_lt m _ _ _ hm
  obtain ⟨z0, w0⟩ : ∃ zs, IsRow .u8 W a0 len0 cap0 zs := by
    obtain ⟨fuel, hf⟩ := h0
    rcases open_ints Tryd.underlying22 Tryd.underlying5 (by kernel_rfl) hf with ⟨hcs, _⟩ | ⟨x, l, c, zs, hcs, _, hl, hm, hz, _, hcell, hwz⟩
    · simp [Value.cells] at hcs
      obtain ⟨rfl, rfl, rfl⟩ := hcs
      exact ⟨[], .inl ⟨rfl, rfl, rfl, rfl⟩⟩
    · simp [Value.cells] at hcs
      obtain ⟨rfl, rfl, rfl⟩ := hcs
      exact ⟨zs, .inr ⟨_, rfl, hl, hm, by simpa using hz, hcell, hwz⟩⟩
  obtain ⟨a1, len1, cap1, rfl⟩ := okWide_slice Tryd.underlying22 (hval 1 22 v1 rfl rfl)
  have k1 := h1
  have lt1 : ∀ x ∈ p1, x.block < W.heap.size := by obtain ⟨m, hm⟩ := k1; exact DataW.trod_lt m _ _ _ hm
  obtain ⟨z1, w1⟩ : ∃ zs, IsRow .u8 W a1 len1 cap1 zs := by
    obtain ⟨fuel, hf⟩ := h1
    rcases open_ints Tryd.underlying22 Tryd.underlying5 (by kernel_rfl) hf with ⟨hcs, _⟩ | ⟨x, l, c, zs, hcs, _, hl, hm, hz, _, hcell, hwz⟩
    · simp [Value.cells] at hcs
      obtain ⟨rfl, rfl, rfl⟩ := hcs
      exact ⟨[], .inl ⟨rfl, rfl, rfl, rfl⟩⟩
    · simp [Value.cells] at hcs
      obtain ⟨rfl, rfl, rfl⟩ := hcs
      exact ⟨zs, .inr ⟨_, rfl, hl, hm, by simpa using hz, hcell, hwz⟩⟩
  clear hA0 hval0
  refine (walk a0 len0 cap0 z0 a1 len1 cap1 z1 W w0 w1 htab).mono fun e W' ⟨he, bel⟩ => ?_
  subst he
  exact ⟨_, rfl, _, _, _, [], _, [], hW', trodAll_mk1 (shut_bool Tryd.underlying4 _), (trodAll_cons_mk (Below.trod laidOut (by kernel_rfl) (of_decide_eq_true (by kernel_rfl)) k0 bel lt0) (trodAll_cons_mk (Below.trod laidOut (by kernel_rfl) (of_decide_eq_true (by kernel_rfl)) k1 bel lt1) trodAll_mk0)), rfl, bel.frame _, fun h => by cases h⟩

set_option maxRecDepth 100000 in
theorem laid_met (os : Os) : laidMet Tryd.prog Rows.macTwoRow.laid (({ World.holding Tryd.prog os ⟨#[], #[], []⟩ with heap := (World.holding Tryd.prog os ⟨#[], #[], []⟩).heap.setIfInBounds 0 (.cells (uv keyL).toArray 64) } : World).forCall (fun _ _ => 0) ⟨#[], #[.slice none 0 0, .slice none 0 0], []⟩).memory :=
  laidMet_of_run' 8 (by kernel_rfl) (by kernel_rfl)
theorem reads (os : Os) {H : Type} (enc : TypeId × Value → H) : ∃ places, DataW.whole enc Tryd.prog (({ World.holding Tryd.prog os ⟨#[], #[], []⟩ with heap := (World.holding Tryd.prog os ⟨#[], #[], []⟩).heap.setIfInBounds 0 (.cells (uv keyL).toArray 64) } : World).forCall (fun _ _ => 0) ⟨#[], #[.slice none 0 0, .slice none 0 0], []⟩).memory Tryd.f8.params.toList Rows.macTwoSpec.vars false (#[.slice none 0 0, .slice none 0 0] : Array Value).toList 8 = some ([.nil, .nil], [], places) :=
  ⟨[], by kernel_rfl⟩
set_option maxRecDepth 100000 in
theorem lifted (os : Os) (started : os.Started) (H : Type) (enc : TypeId × Value → H) (F : Stop.Interp) :
    ReturnsInHanded {} Tryd.checked os 8 .any ((OpenSpec.ofChange Rows.macTwoSpec).preRow enc Tryd.prog Tryd.f8 Rows.macTwoRow.domain false Rows.macTwoRow.laid) (((OpenSpec.ofChange Rows.macTwoSpec).at F).post enc Tryd.prog Tryd.f8 false true false false) := by
  obtain ⟨places, hx⟩ := reads os enc
  refine returnsInHanded_of_row (C := Tryd.checked) (s := OpenSpec.ofChange Rows.macTwoSpec) own started (by kernel_rfl) Tryd.func8
    (witness_row_at (enc := enc) (C := Tryd.checked) false ({ World.holding Tryd.prog os ⟨#[], #[], []⟩ with heap := (World.holding Tryd.prog os ⟨#[], #[], []⟩).heap.setIfInBounds 0 (.cells (uv keyL).toArray 64) } : World) #[.slice none 0 0, .slice none 0 0] rfl (by kernel_rfl) (by kernel_rfl) (by kernel_rfl)
      (OpenSpec.preRow_of_cond 8 hx (by kernel_rfl) (fun k hk => by cases hk) (by kernel_rfl) (laid_met os))) ?_
  intro W base args ds gs before hval hW _ _ _ hL _ _
  exact contract H enc W base args ds gs before hval hW hL
theorem said : Rows.MacTwoSaid :=
  OpenClaim.holds_of_cond 8 Tryd.f8 rfl rfl rfl rfl rfl rfl rfl ⟨rfl, rfl, rfl, rfl, rfl⟩ rfl rfl rfl rfl rfl (by kernel_rfl) Tryd.func8 (by kernel_rfl)
    (of_decide_eq_true (by kernel_rfl)) (by unfold Func.isWrapper; first | (rw [if_pos (by decide +kernel)]; kernel_rfl) | (rw [if_neg (by decide +kernel)]; exact ⟨rfl, rfl⟩))
    (fun os started H enc _ F => by rw [OpenClaim.pre_eq_preRow]; exact lifted os started H enc F)
theorem plain (f : FuncId) (fn : Func) (hf : Tryd.pinned.checked.prog.funcNamed "inquest/inquestlaw03.MacTwo" = some f) (hfn : Tryd.pinned.checked.prog.funcs[f]? = some fn) :
    false = Tryd.pinned.checked.prog.looks [] ∧ ∀ (j : Nat) t, fn.params[j]? = some t → Tryd.pinned.checked.prog.wantsStandIn t = false := by
  obtain rfl : f = 8 := Option.some.inj ((show Tryd.prog.funcNamed "inquest/inquestlaw03.MacTwo" = some 8 by kernel_rfl).symm.trans hf) |>.symm
  obtain rfl : fn = Tryd.f8 := (Option.some.inj (Tryd.func8.symm.trans hfn)).symm
  refine ⟨by kernel_rfl, fun j t ht => ?_⟩
  rw [Tryd.params8] at ht
  have hall : ([22, 22].all fun u => !Tryd.prog.wantsStandIn u) = true := by kernel_rfl
  have hm : t ∈ [22, 22] := by simpa using Array.mem_of_getElem? ht
  exact (show Tryd.prog.wantsStandIn t = false by simpa using List.all_eq_true.1 hall t hm)
/-- the tied card -/
theorem card : Rows.MacTwoCardSaid :=
  Claim7.holds_tied_plain_at .later [] _ _ _ _ said (fun _ h => by cases h) (by kernel_rfl) (fun _ h => by cases h) macTwo_row_tie rfl ⟨rfl, rfl⟩ (by kernel_rfl) rfl plain (by kernel_rfl)
end Go.Proofs.YtglndmkfkmkngaaDoor.macTwo
namespace Go.Proofs.YtglndmkfkmkngaaDoor
theorem macTwo_holds : Rows.MacTwoCardSaid := macTwo.card
#print axioms macTwo_holds
end Go.Proofs.YtglndmkfkmkngaaDoor
