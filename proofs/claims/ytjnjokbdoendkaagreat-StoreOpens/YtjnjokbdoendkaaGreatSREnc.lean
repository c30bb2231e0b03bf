/- Encode, the document's. -/
import Derived.Test.YtjnjokbdoendkaaGreatSen
import Derived.Test.YtjnjokbdoendkaaGreatSva
namespace Go.Proofs.YtjnjokbdoendkaaGreat
open Go.RowKit
set_option linter.unusedVariables false

set_option maxRecDepth 100000 in
set_option maxHeartbeats 1000000 in
theorem counted_any (ao : Option Addr) (m c : Nat) (l2 : List Int) (w : World) (hbt : Bts w ao m c l2) (h63 : m ≤ 70368744177664) :
    Calls Tryz.prog 82 #[.slice ao m c] w fun e w' => ∃ v', e = .returned v' ∧ w'.ownsRow w.heap.size 5 1 v' ((varL m).length + m) (bv (varL m ++ l2)) ∧ Below w.heap.size w w' := by
  have HB : Bx (Bts w ao m c l2) := ⟨hbt⟩
  have hvl := (varL_length m)
  have gm : (m : Int) % 18446744073709551616 = m := by omega
  clear hbt
  go_enter Tryz.func82, Tryz.ntmps82
  go_wp2_with fail
  refine (refvar_any 9 (m : Int) _ (by omega) (by omega) (by omega) (by have e : (128 : Int) ^ (9 + 1) = 1180591620717411303424 := rfl; rw [e]; omega)).mono ?_
  rintro e w1 ⟨v1, rfl, hown1, hb1⟩
  have hown1' : w1.ownsRow w.heap.size 5 1 v1 (varL m).length (bv (varL m)) := hown1
  have HO1 : Bx (w1.ownsRow w.heap.size 5 1 v1 (varL m).length (bv (varL m))) := ⟨hown1'⟩
  have HB1 : Bx (Bts w1 ao m c l2) := ⟨HB.out.below hb1⟩
  have HL1 : Bx (Below w.heap.size w w1) := ⟨hb1⟩
  have hs1 := hb1.size
  obtain ⟨a1, n1, c1, rfl⟩ := own_form hown1'
  clear hown1 hown1' hb1 HB
  go_wp2_with (at_builtin; refine wpList_append_bts rfl (.tmp 6) (.tmp 7) rfl w.heap.size _ _ _ rfl HO1.out ao m c l2 rfl HB1.out (by omega) hs1 ?_)
  intro v2 w2 hown2 hb2 _
  obtain ⟨a2, n2, c2, rfl⟩ := own_form hown2
  have R : Bx (w2.ownsRow w.heap.size 5 1 (.slice a2 n2 c2) ((varL m).length + m) (bv (varL m ++ l2)) ∧ Below w.heap.size w w2) := ⟨hown2, HL1.out.trans hb2⟩
  clear hown2 hb2
  go_wp2_with fail
  go_ret
  exact ⟨_, rfl, R.out⟩
set_option maxRecDepth 100000 in
set_option maxHeartbeats 4000000 in
set_option maxRecDepth 100000 in
theorem refencode_any (B : Nat → Prop) (ao : Option Addr) (len cap : Nat) (L : List Chg) (w : World) (h : CT B w ao len cap L) (hks : ∀ c ∈ L, c.key.size ≤ 9223372036854775807) :
    Calls Tryz.prog 46 #[.slice ao len cap] w fun e w' => ∃ v, e = .returned (.tuple #[v, .int .i64 (chkL L)]) ∧ w'.ownsRow w.heap.size 5 1 v (encR L).length (bv (encR L)) ∧ Below w.heap.size w w' := by
  have HL : Bx (CT B w ao len cap L) := ⟨h⟩
  have HLW : Bx (CT (fun k => k < w.heap.size) w ao len cap L) := ⟨h.low⟩
  have HKS : Bx (∀ c ∈ L, c.key.size ≤ 9223372036854775807) := ⟨hks⟩
  have HLEN : Bx (L.length = len) := ⟨h.len_eq⟩
  have hcl := h.le_cap
  have hcm := h.cap_le
  unfold maxLen at hcm
  clear h hks
  go_enter Tryz.func46, Tryz.ntmps46
  go_wp2_with fail
  refine (refcheck_any B ao len cap L _ HL.out HKS.out).mono ?_
  rintro e w1 ⟨rfl, hb1⟩
  by_cases hY : chkL L = 0
  · have HR : Bx (encR L = encL L) := ⟨by unfold encR; rw [if_pos hY]⟩
    have HOK : Bx (LOk L) := ⟨chkL_ok hY⟩
    have hlen : len ≤ 16 := by have := HOK.out.n2; rw [HLEN.out] at this; exact this
    rw [hY]
    have HY : Bx (chkL L = 0) := ⟨hY⟩
    have gm : (len : Int) % 18446744073709551616 = len := by omega
    have HP0 : Bx (encP L 0 = varF 9 len) := ⟨by unfold encP; rw [HLEN.out]; simp [varL]⟩
    have hs1 := hb1.size
    have HB1 : Bx (Below w.heap.size w w1) := ⟨hb1⟩
    clear hY hb1 HL
    go_wp2_with fail
    refine (refvar_any 9 (len : Int) _ (by omega) (by omega) (by omega) (by have e : (128 : Int) ^ (9 + 1) = 1180591620717411303424 := rfl; rw [e]; omega)).mono ?_
    rintro e w2 ⟨v2, rfl, hown2, hb2⟩
    rw [← HP0.out] at hown2
    have hown2' := owns_base hown2 hs1
    have hbw2 := bstep HB1.out hb2
    clear hown2 HB1
    obtain ⟨a2, n2, c2, rfl⟩ := own_form hown2'
    go_wp2_with fail
    go_loopw [5, 6] (fun v i wr => ∃ k : Nat, k ≤ len ∧ i = .int .i64 k ∧ Bx (wr.ownsRow w.heap.size 5 1 v (encP L k).length (bv (encP L k))) ∧ Below w.heap.size w wr ∧ (∃ a0 n0 c0, v = .slice a0 n0 c0)) (fun _ i _ => len - (intOf i).toNat)
    case atStart => exact ⟨0, Nat.zero_le _, rfl, ⟨hown2'⟩, hbw2, _, _, _, rfl⟩
    case round =>
      clear hown2' hbw2 hb2
      obtain ⟨k, hk, rfl, HO, hbw, a0, n0, c0, rfl⟩ := hrel
      by_cases hlt : k < len
      · have hkI : (k : Int) < (len : Int) := by omega
        have hkL : k < L.length := by rw [HLEN.out]; exact hlt
        have HST : Bx (encP L (k + 1) = encP L k ++ chgL L[k]) := ⟨encP_step L k hkL⟩
        have hPl := encP_length HOK.out k
        have hck := HOK.out.c _ (List.getElem_mem hkL)
        obtain ⟨b, off, ai, ni, ci, rfl, _, hblw, g1, g2, g3, gbt, glo⟩ := HLW.out.chg k hlt
        have hk40 := hck.k2
        have hv40 := hck.v
        have hvl := gbt.len_eq
        have HCL : Bx (∀ W, Below w.heap.size w W → W.cell? ⟨b, off + k * 3, none⟩ = some (.string L[k].key) ∧ W.cell? ⟨b, off + k * 3 + 1, none⟩ = some (.bool L[k].del) ∧ W.cell? ⟨b, off + k * 3 + 2, none⟩ = some (.slice ai ni ci) ∧ Bts W ai ni ci L[k].val) := ⟨fun W hW => ⟨(hW.cell (p := ⟨b, off + k * 3, none⟩) hblw).trans g1, (hW.cell (p := ⟨b, off + k * 3 + 1, none⟩) hblw).trans g2, (hW.cell (p := ⟨b, off + k * 3 + 2, none⟩) hblw).trans g3, gbt.keep (fun hp p e => hW.block _ (glo hp p e)) hW.size⟩⟩
        obtain ⟨h1, h2, h3, hbt⟩ := HCL.out _ hbw
        clear g1 g2 g3 gbt glo
        generalize hcc : L[k] = cc at h1 h2 hbt hk40 hv40 hvl HST HCL
        obtain ⟨kk, dd, vv⟩ := cc
        simp only at h1 h2 hbt hk40 hv40 hvl HCL
        have HBW : Bx (Below w.heap.size w wr) := ⟨hbw⟩
        have hsr := hbw.size
        generalize encP L k = P at HO HST hPl
        clear hcc hbt hbw hck
        cases dd with
        | true =>
          have HCG : Bx (chgL ⟨kk, true, vv⟩ = 1 :: (varL kk.size ++ strL kk)) := ⟨by simp [chgL]⟩
          -- the byte of the kind
          have hbn : Below wr.heap.size wr (wr.alloc (.cells #[.int .u8 1] 5)) := (Below.refl _ _).alloc (Nat.le_refl _) _
          have HN : Bx (Bts (wr.alloc (.cells #[.int .u8 1] 5)) (some ⟨wr.heap.size, 0, none⟩) 1 1 [1]) := ⟨bts_one wr _ (by decide)⟩
          have HON : Bx ((wr.alloc (.cells #[.int .u8 1] 5)).ownsRow w.heap.size 5 1 (.slice a0 n0 c0) P.length (bv P)) := ⟨owns_below HO.out hbn⟩
          have hsn : w.heap.size ≤ (wr.alloc (.cells #[.int .u8 1] 5)).heap.size := by have := hbn.size; omega
          have HBN : Bx (Below w.heap.size w (wr.alloc (.cells #[.int .u8 1] 5))) := ⟨bstep HBW.out hbn⟩
          clear hbn
          go_wp2_with (at_builtin; refine wpList_append_bts rfl (.tmp 27) (.tmp 28) rfl w.heap.size _ _ P rfl HON.out _ 1 1 [1] rfl HN.out (by omega) hsn ?_)
          intro v2 w2 hown2 hb2 _
          obtain ⟨a2, n2, c2, rfl⟩ := own_form hown2
          have hbw2 := HBN.out.trans hb2
          have HO2 : Bx (w2.ownsRow w.heap.size 5 1 (.slice a2 n2 c2) (P.length + 1) (bv (P ++ [1]))) := ⟨hown2⟩
          have HBW2 : Bx (Below w.heap.size w w2) := ⟨hbw2⟩
          have hs2 := hbw2.size
          obtain ⟨q1, q2, q3, _⟩ := HCL.out _ hbw2
          clear hown2 hb2 hbw2 HN HON HBN hsn HO h1 h2 h3
          -- its key
          obtain ⟨cm, wv, hcv, hbv, hbm⟩ := conv_bytes w2 kk (by unfold maxLen; omega)
          have HBV : Bx (Bts wv (some ⟨w2.heap.size, 0, none⟩) kk.size cm (strL kk)) := ⟨hbm⟩
          have HBWV : Bx (Below w.heap.size w wv) := ⟨bstep HBW2.out hbv⟩
          have HO3 : Bx (wv.ownsRow w.heap.size 5 1 (.slice a2 n2 c2) (P.length + 1) (bv (P ++ [1]))) := ⟨owns_below HO2.out hbv⟩
          have hsv := hbv.size
          generalize hG : w2.heap.size = G at hcv HBV
          clear hbv hbm HO2 HBW2
          go_wp2_with fail
          refine (counted_any (some ⟨G, 0, none⟩) kk.size cm (strL kk) _ HBV.out (by omega)).mono ?_
          rintro e w4 ⟨v4, rfl, hown4, hb4⟩
          obtain ⟨a4, c4, rfl, hm4⟩ := Bts.of_owns hown4 (Byt.append (varL_byt _ (by omega) (by omega)) (strL_byt _))
          have hbw4 := bstep HBWV.out hb4
          have hs4 := hbw4.size
          have HO4 : Bx (w4.ownsRow w.heap.size 5 1 (.slice a2 n2 c2) (P.length + 1) (bv (P ++ [1]))) := ⟨owns_below HO3.out hb4⟩
          have HM4 : Bx (Bts w4 a4 ((varL kk.size).length + kk.size) c4 (varL kk.size ++ strL kk)) := ⟨hm4⟩
          have HBW4 : Bx (Below w.heap.size w w4) := ⟨hbw4⟩
          have hvk := (varL_length kk.size).2
          generalize hVK : (varL kk.size).length + kk.size = vk at HM4
          have hvk2 : vk ≤ 60 := by omega
          have HVK : Bx ((varL kk.size).length + kk.size = vk) := ⟨hVK⟩
          clear hown4 hb4 hbw4 hm4 HO3 HBV HBWV hcv q1 q2 q3 hVK
          try rw [HVK.out]
          go_wp2_with (at_builtin; refine wpList_append_bts rfl (.tmp 30) (.tmp 37) rfl w.heap.size _ _ (P ++ [1]) rfl HO4.out a4 vk c4 _ rfl HM4.out (by omega) hs4 ?_)
          intro v5 w5 hown5 hb5 _
          obtain ⟨a5, n5, c5, rfl⟩ := own_form hown5
          have hbw5 := HBW4.out.trans hb5
          have hs5 := hbw5.size
          have HF : Bx (w5.ownsRow w.heap.size 5 1 (.slice a5 n5 c5) (encP L (k + 1)).length (bv (encP L (k + 1)))) := ⟨by
            have e1 : (encP L (k + 1)).length = P.length + 1 + vk := by rw [HST.out, HCG.out, List.length_append, List.length_cons, List.length_append, strL_length, HVK.out]; omega
            have e2 : encP L (k + 1) = P ++ [1] ++ (varL kk.size ++ strL kk) := by rw [HST.out, HCG.out]; simp
            rw [e1, e2]; simpa using hown5⟩
          clear hown5 hb5 HO4 HM4 HBW4 HST HCG
          go_wp2_with fail
          go_roundw
          case rel => exact ⟨k + 1, by omega, by go_num, HF, hbw5, _, _, _, rfl⟩
          case measure => simp [intOf]; omega
        | false =>
          have HCG : Bx (chgL ⟨kk, false, vv⟩ = 0 :: (varL kk.size ++ (strL kk ++ (varL ni ++ vv)))) := ⟨by rw [← hvl]; simp [chgL]⟩
          -- the byte of the kind
          have hbn : Below wr.heap.size wr (wr.alloc (.cells #[.int .u8 0] 5)) := (Below.refl _ _).alloc (Nat.le_refl _) _
          have HN : Bx (Bts (wr.alloc (.cells #[.int .u8 0] 5)) (some ⟨wr.heap.size, 0, none⟩) 1 1 [0]) := ⟨bts_one wr _ (by decide)⟩
          have HON : Bx ((wr.alloc (.cells #[.int .u8 0] 5)).ownsRow w.heap.size 5 1 (.slice a0 n0 c0) P.length (bv P)) := ⟨owns_below HO.out hbn⟩
          have hsn : w.heap.size ≤ (wr.alloc (.cells #[.int .u8 0] 5)).heap.size := by have := hbn.size; omega
          have HBN : Bx (Below w.heap.size w (wr.alloc (.cells #[.int .u8 0] 5))) := ⟨bstep HBW.out hbn⟩
          clear hbn
          go_wp2_with (at_builtin; refine wpList_append_bts rfl (.tmp 39) (.tmp 40) rfl w.heap.size _ _ P rfl HON.out _ 1 1 [0] rfl HN.out (by omega) hsn ?_)
          intro v2 w2 hown2 hb2 _
          obtain ⟨a2, n2, c2, rfl⟩ := own_form hown2
          have hbw2 := HBN.out.trans hb2
          have HO2 : Bx (w2.ownsRow w.heap.size 5 1 (.slice a2 n2 c2) (P.length + 1) (bv (P ++ [0]))) := ⟨hown2⟩
          have HBW2 : Bx (Below w.heap.size w w2) := ⟨hbw2⟩
          have hs2 := hbw2.size
          obtain ⟨q1, q2, q3, _⟩ := HCL.out _ hbw2
          clear hown2 hb2 hbw2 HN HON HBN hsn HO h1 h2 h3
          -- its key
          obtain ⟨cm, wv, hcv, hbv, hbm⟩ := conv_bytes w2 kk (by unfold maxLen; omega)
          have HBV : Bx (Bts wv (some ⟨w2.heap.size, 0, none⟩) kk.size cm (strL kk)) := ⟨hbm⟩
          have HBWV : Bx (Below w.heap.size w wv) := ⟨bstep HBW2.out hbv⟩
          have HO3 : Bx (wv.ownsRow w.heap.size 5 1 (.slice a2 n2 c2) (P.length + 1) (bv (P ++ [0]))) := ⟨owns_below HO2.out hbv⟩
          have hsv := hbv.size
          generalize hG : w2.heap.size = G at hcv HBV
          clear hbv hbm HO2 HBW2
          go_wp2_with fail
          refine (counted_any (some ⟨G, 0, none⟩) kk.size cm (strL kk) _ HBV.out (by omega)).mono ?_
          rintro e w4 ⟨v4, rfl, hown4, hb4⟩
          obtain ⟨a4, c4, rfl, hm4⟩ := Bts.of_owns hown4 (Byt.append (varL_byt _ (by omega) (by omega)) (strL_byt _))
          have hbw4 := bstep HBWV.out hb4
          have hs4 := hbw4.size
          have HO4 : Bx (w4.ownsRow w.heap.size 5 1 (.slice a2 n2 c2) (P.length + 1) (bv (P ++ [0]))) := ⟨owns_below HO3.out hb4⟩
          have HM4 : Bx (Bts w4 a4 ((varL kk.size).length + kk.size) c4 (varL kk.size ++ strL kk)) := ⟨hm4⟩
          have HBW4 : Bx (Below w.heap.size w w4) := ⟨hbw4⟩
          have hvk := (varL_length kk.size).2
          generalize hVK : (varL kk.size).length + kk.size = vk at HM4
          have hvk2 : vk ≤ 60 := by omega
          have HVK : Bx ((varL kk.size).length + kk.size = vk) := ⟨hVK⟩
          clear hown4 hb4 hbw4 hm4 HO3 HBV HBWV hcv q1 q2 q3 hVK
          try rw [HVK.out]
          go_wp2_with (at_builtin; refine wpList_append_bts rfl (.tmp 42) (.tmp 49) rfl w.heap.size _ _ (P ++ [0]) rfl HO4.out a4 vk c4 _ rfl HM4.out (by omega) hs4 ?_)
          intro v5 w5 hown5 hb5 _
          obtain ⟨a5, n5, c5, rfl⟩ := own_form hown5
          have hbw5 := HBW4.out.trans hb5
          have hs5 := hbw5.size
          have HO5 : Bx (w5.ownsRow w.heap.size 5 1 (.slice a5 n5 c5) (P.length + 1 + vk) (bv (P ++ [0] ++ (varL kk.size ++ strL kk)))) := ⟨by simpa using hown5⟩
          obtain ⟨q1, q2, q3, q4⟩ := HCL.out _ hbw5
          have HQ4 : Bx (Bts w5 ai ni ci vv) := ⟨q4⟩
          have HBW5 : Bx (Below w.heap.size w w5) := ⟨hbw5⟩
          clear hown5 hb5 HO4 HM4 HBW4 q4 hbw5
          go_wp2_with fail
          refine (counted_any ai ni ci vv _ HQ4.out (by omega)).mono ?_
          rintro e w6 ⟨v6, rfl, hown6, hb6⟩
          obtain ⟨a6, c6, rfl, hm6⟩ := Bts.of_owns hown6 (Byt.append (varL_byt _ (by omega) (by omega)) HQ4.out.byt)
          have hbw6 := bstep HBW5.out hb6
          have hs6 := hbw6.size
          have HO6 : Bx (w6.ownsRow w.heap.size 5 1 (.slice a5 n5 c5) (P.length + 1 + vk) (bv (P ++ [0] ++ (varL kk.size ++ strL kk)))) := ⟨owns_below HO5.out hb6⟩
          have hvn := (varL_length ni).2
          generalize hVN : (varL ni).length + ni = vn at hm6
          have hvn2 : vn ≤ 4200 := by omega
          have HVN : Bx ((varL ni).length + ni = vn) := ⟨hVN⟩
          have HM6 : Bx (Bts w6 a6 vn c6 (varL ni ++ vv)) := ⟨hm6⟩
          have HBW6 : Bx (Below w.heap.size w w6) := ⟨hbw6⟩
          clear hown6 hb6 hbw6 hm6 HO5 HQ4 HBW5 hVN q1 q2 q3
          try rw [HVN.out]
          go_wp2_with (at_builtin; refine wpList_append_bts rfl (.tmp 51) (.tmp 57) rfl w.heap.size _ _ (P ++ [0] ++ (varL kk.size ++ strL kk)) rfl HO6.out a6 vn c6 _ rfl HM6.out (by omega) hs6 ?_)
          intro v7 w7 hown7 hb7 _
          obtain ⟨a7, n7, c7, rfl⟩ := own_form hown7
          have hbw7 := HBW6.out.trans hb7
          have HF : Bx (w7.ownsRow w.heap.size 5 1 (.slice a7 n7 c7) (encP L (k + 1)).length (bv (encP L (k + 1)))) := ⟨by
            have e1 : (encP L (k + 1)).length = P.length + 1 + vk + vn := by rw [HST.out, HCG.out, List.length_append, List.length_cons, List.length_append, List.length_append, List.length_append, strL_length, hvl, ← HVK.out, ← HVN.out]; omega
            have e2 : encP L (k + 1) = P ++ [0] ++ (varL kk.size ++ strL kk) ++ (varL ni ++ vv) := by rw [HST.out, HCG.out]; simp
            rw [e1, e2]; simpa using hown7⟩
          clear hown7 hb7 HO6 HM6 HBW6 HST HCG
          go_wp2_with fail
          go_roundw
          case rel => exact ⟨k + 1, by omega, by go_num, HF, hbw7, _, _, _, rfl⟩
          case measure => simp [intOf]; omega
      · have hkI : ¬ (k : Int) < (len : Int) := by omega
        have HF : Bx (encP L k = encR L) := ⟨by rw [HR.out, encP_all L k (by rw [HLEN.out]; omega)]⟩
        rw [HF.out] at HO
        go_wp2_with fail
        go_ret2
        exact ⟨_, by rw [HY.out]; rfl, HO.out, hbw⟩
  · have HR : Bx (encR L = []) := ⟨by unfold encR; rw [if_neg hY]⟩
    have g2 : (chkL L != 0) = true := by simp [hY]
    obtain ⟨Y, HYY⟩ : ∃ Y, Bx (chkL L = Y) := ⟨_, ⟨rfl⟩⟩
    rw [HYY.out] at g2 ⊢
    clear hY
    go_wp2_with fail
    go_ret2
    exact ⟨_, by rw [HYY.out]; rfl, by rw [HR.out]; exact World.ownsRow_nil _ _ _ _, hb1⟩
end Go.Proofs.YtjnjokbdoendkaaGreat
