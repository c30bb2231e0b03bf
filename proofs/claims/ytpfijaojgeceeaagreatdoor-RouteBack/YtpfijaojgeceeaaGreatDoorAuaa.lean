/- A request's bytes, written. What Print answers. What is read is not long. No walk. What Print of layer 23 answers, over the wire. No walk. -/
import Derived.Test.YtpfijaojgeceeaaGreatDoorWLen
import Derived.Test.YtpfijaojgeceeaaGreatDoorAuaf
import Derived.Test.YtpfijaojgeceeaaGreatDoorAuad
import Derived.Deep.CutRange
import Derived.Test.YtpfijaojgeceeaaGreatDoorAuao
import Derived.Test.YtpfijaojgeceeaaGreatDoorAuap
namespace Go.Proofs.YtpfijaojgeceeaaGreatDoor
open Go.RowKit
set_option linter.unusedVariables false

set_option maxRecDepth 100000 in
set_option maxHeartbeats 1000000 in
theorem wwritten_any (x : WX) (a : Option Addr) (n c : Nat) (w : World) (hb : Bts w a n c x.b) (hs : Sm5 x) (he : Env w.heap.size w) :
    Calls Tryz.prog 21 #[reqV x (.slice a n c)] w fun e w' => ∃ b' c', e = .returned (.slice (some ⟨b', 0, none⟩) (wrL x).length c') ∧ Bts w' (some ⟨b', 0, none⟩) (wrL x).length c' (wrL x) ∧ w.heap.size ≤ b' ∧ Below w.heap.size w w' := by
  have hn := hb.len_eq
  have hB1 : Below w.heap.size w (w.alloc (.cells #[.string x.m, .string x.t, .string x.k, .slice a n c] 28)) := (Below.refl _ _).alloc (Nat.le_refl _) _
  have HB1 := Bx.mk hB1
  have HBT := Bx.mk (hb.below hB1)
  have HE := Bx.mk (he.up hB1)
  have HLEN : Bx ((wrL x).length = (wrB x).size + n) := ⟨by unfold wrL; rw [List.length_append, strL_length, hn]⟩
  have HSB := Bx.mk (wrB_size5 hs)
  have hsm := hs.m
  have hst := hs.t
  have hsk := hs.k
  have hsb := hs.b
  have hsA := wrA_size5 hs
  have hsT := wrT_size5 hs
  have hsN := wrN_size5 hs
  have eA : ((((x.m ++ ⟨#[32]⟩) ++ x.t) ++ ⟨#[32]⟩) ++ ⟨#[72, 84, 84, 80, 47, 49, 46, 49]⟩) ++ ⟨#[13, 10]⟩ = wrA x := rfl
  have eU : ((⟨#[65, 117, 116, 104, 111, 114, 105, 122, 97, 116, 105, 111, 110, 58, 32, 66, 101, 97, 114, 101, 114, 32]⟩ : ByteArray) ++ x.k) ++ ⟨#[13, 10]⟩ = authB x.k := rfl
  have hsU := authB_size5 hs
  have hsL := lenB_size x.b.length (by omega)
  have HT : Bx (wrT x = if x.k.size = 0 then wrA x else wrA x ++ authB x.k) := ⟨rfl⟩
  have HN : Bx (wrN x = if x.b.length = 0 then wrT x else wrT x ++ lenB x.b.length) := ⟨rfl⟩
  have eB : wrN x ++ ⟨#[13, 10]⟩ = wrB x := rfl
  have HCV : Bx (∀ W : World, ∃ c2 w2, (convert 9 22 (.string (wrB x))).run Tryz.prog W = .ok (.slice (some ⟨W.heap.size, 0, none⟩) (wrB x).size c2) w2 ∧ Below W.heap.size W w2 ∧ Cv w2 W.heap.size (wrB x).size c2 (strL (wrB x))) := ⟨fun W => conv_cv W (wrB x) (by have := HSB.out.1; unfold maxLen; omega)⟩
  have HFIN : Bx (strL (wrB x) ++ x.b = wrL x) := ⟨rfl⟩
  have C1 : Hid (∀ W, Below w.heap.size w W → Calls Tryz.prog 31 #[.int .i64 (n : Int)] W fun e w' => e = .returned (.string (lenB x.b.length)) ∧ Below W.heap.size W w') := fun W hW => by rw [hn]; exact wlenl_any n (by omega) W (he.below hW).tens
  have ek := empty_iff x.k
  have HROW : Bx ((w.alloc (.cells #[.string x.m, .string x.t, .string x.k, .slice a n c] 28)).heap[w.heap.size]? = some (.cells #[.string x.m, .string x.t, .string x.k, .slice a n c] 28 (0, 0))) := ⟨heap_alloc_new w _⟩
  have HSZ : Bx ((w.alloc (.cells #[.string x.m, .string x.t, .string x.k, .slice a n c] 28)).heap.size = w.heap.size + 1) := ⟨by simp⟩
  have hnb : n ≤ 5000 := by omega
  rw [hn] at HN hsL C1
  clear hB1 hs he hb hsb hn
  unfold reqV
  generalize hw1 : w.alloc (.cells #[.string x.m, .string x.t, .string x.k, .slice a n c] 28) = W1 at *
  generalize wrA x = A at *
  generalize authB x.k = U at *
  generalize wrT x = T at *
  generalize wrN x = N at *
  generalize lenB n = LB at *
  generalize wrB x = WB at *
  have HR1 : Bx (∃ v, W1.cell? ⟨w.heap.size, 0, none⟩ = some (.string x.m) ∧ W1.cell? ⟨w.heap.size, 1, none⟩ = some (.string x.t) ∧ W1.cell? ⟨w.heap.size, 2, none⟩ = some (.string x.k) ∧ W1.cell? ⟨w.heap.size, 3, none⟩ = some v ∧ v = .slice a n c) := ⟨_, by rw [cell_of_row _ w.heap.size 0 _ _ (0, 0) HROW.out]; rfl, by rw [cell_of_row _ w.heap.size 1 _ _ (0, 0) HROW.out]; rfl, by rw [cell_of_row _ w.heap.size 2 _ _ (0, 0) HROW.out]; rfl, by rw [cell_of_row _ w.heap.size 3 _ _ (0, 0) HROW.out]; rfl, rfl⟩
  obtain ⟨v, q0, q1, q2, q3, rfl⟩ := HR1.out
  clear HR1
  by_cases hk : x.k.size = 0
  · rw [decide_eq_true hk] at ek
    have hTA : T = A := by rw [HT.out, if_pos hk]
    subst hTA
    by_cases h0 : n = 0
    · have hNT : N = T := by rw [HN.out, if_pos h0]
      have g0 : ¬ (n : Int) > 0 := by omega
      subst hNT
      clear HT HN hk h0
      obtain ⟨c2, w3, hcv, hb3, hC⟩ := HCV.out W1
      have HB3 : Bx (Below w.heap.size w w3) := ⟨bstep HB1.out hb3⟩
      have hr3 : w3.heap[w.heap.size]? = some (.cells #[.string x.m, .string x.t, .string x.k, .slice a n c] 28 (0, 0)) := by rw [hb3.block _ (by have := HSZ.out; have := HB1.out.size; omega)]; exact HROW.out
      have k3 : w3.cell? ⟨w.heap.size, 3, none⟩ = some (.slice a n c) := by rw [cell_of_row w3 w.heap.size 3 _ _ (0, 0) hr3]; rfl
      have HBT3 := Bx.mk (HBT.out.below hb3)
      have HC := Bx.mk hC
      have HBS : Bx (w.heap.size ≤ (W1).heap.size) := ⟨HB1.out.size⟩
      clear hb3 hC hr3
      go_enter Tryz.func21, Tryz.ntmps21
      go_wp2_with (at_builtin; refine wpList_append_cv rfl (.tmp 34) (.tmp 36) rfl HB3.out HBS.out HC.out rfl HSB.out.2 a n c x.b rfl HBT3.out (by have := HSB.out.1; omega) ?_; intro b4 c4 w4 hbt4 hbl4 hbb4; have HBT4 := Bx.mk hbt4; have HBL4 := Bx.mk hbl4; have HBB4 := Bx.mk hbb4; clear hbt4 hbl4 hbb4)
      go_ret
      refine ⟨b4, c4, ?_, ?_, HBB4.out, HBL4.out⟩
      · rw [HLEN.out]; rfl
      · rw [HLEN.out, ← HFIN.out]; exact HBT4.out
    · have eN : T ++ LB = N := by rw [HN.out, if_neg h0]
      have g0 : (n : Int) > 0 := by omega
      clear HT HN hk h0
      go_enter Tryz.func21, Tryz.ntmps21
      go_wp2_with fail
      refine (C1.out _ HB1.out).mono ?_
      rintro e w2 ⟨rfl, hb2⟩
      have HB2 := Bx.mk (bstep HB1.out hb2)
      have HROW2 : Bx (w2.heap[w.heap.size]? = some (.cells #[.string x.m, .string x.t, .string x.k, .slice a n c] 28 (0, 0))) := ⟨by rw [hb2.block _ (by have := HSZ.out; omega)]; exact HROW.out⟩
      have HBT2 := Bx.mk (HBT.out.below hb2)
      have HS2 := Bx.mk hb2.size
      clear hb2
      obtain ⟨c2, w3, hcv, hb3, hC⟩ := HCV.out w2
      have HB3 : Bx (Below w.heap.size w w3) := ⟨bstep HB2.out hb3⟩
      have hr3 : w3.heap[w.heap.size]? = some (.cells #[.string x.m, .string x.t, .string x.k, .slice a n c] 28 (0, 0)) := by rw [hb3.block _ (by have := HSZ.out; have := HS2.out; omega)]; exact HROW2.out
      have k3 : w3.cell? ⟨w.heap.size, 3, none⟩ = some (.slice a n c) := by rw [cell_of_row w3 w.heap.size 3 _ _ (0, 0) hr3]; rfl
      have HBT3 := Bx.mk (HBT2.out.below hb3)
      have HC := Bx.mk hC
      have HBS : Bx (w.heap.size ≤ (w2).heap.size) := ⟨HB2.out.size⟩
      clear hb3 hC hr3
      go_wp2_with (at_builtin; refine wpList_append_cv rfl (.tmp 34) (.tmp 36) rfl HB3.out HBS.out HC.out rfl HSB.out.2 a n c x.b rfl HBT3.out (by have := HSB.out.1; omega) ?_; intro b4 c4 w4 hbt4 hbl4 hbb4; have HBT4 := Bx.mk hbt4; have HBL4 := Bx.mk hbl4; have HBB4 := Bx.mk hbb4; clear hbt4 hbl4 hbb4)
      go_ret
      refine ⟨b4, c4, ?_, ?_, HBB4.out, HBL4.out⟩
      · rw [HLEN.out]; rfl
      · rw [HLEN.out, ← HFIN.out]; exact HBT4.out
  · rw [decide_eq_false hk] at ek
    have eT : A ++ U = T := by rw [HT.out, if_neg hk]
    by_cases h0 : n = 0
    · have hNT : N = T := by rw [HN.out, if_pos h0]
      have g0 : ¬ (n : Int) > 0 := by omega
      subst hNT
      clear HT HN hk h0
      obtain ⟨c2, w3, hcv, hb3, hC⟩ := HCV.out W1
      have HB3 : Bx (Below w.heap.size w w3) := ⟨bstep HB1.out hb3⟩
      have hr3 : w3.heap[w.heap.size]? = some (.cells #[.string x.m, .string x.t, .string x.k, .slice a n c] 28 (0, 0)) := by rw [hb3.block _ (by have := HSZ.out; have := HB1.out.size; omega)]; exact HROW.out
      have k3 : w3.cell? ⟨w.heap.size, 3, none⟩ = some (.slice a n c) := by rw [cell_of_row w3 w.heap.size 3 _ _ (0, 0) hr3]; rfl
      have HBT3 := Bx.mk (HBT.out.below hb3)
      have HC := Bx.mk hC
      have HBS : Bx (w.heap.size ≤ (W1).heap.size) := ⟨HB1.out.size⟩
      clear hb3 hC hr3
      go_enter Tryz.func21, Tryz.ntmps21
      go_wp2_with (at_builtin; refine wpList_append_cv rfl (.tmp 34) (.tmp 36) rfl HB3.out HBS.out HC.out rfl HSB.out.2 a n c x.b rfl HBT3.out (by have := HSB.out.1; omega) ?_; intro b4 c4 w4 hbt4 hbl4 hbb4; have HBT4 := Bx.mk hbt4; have HBL4 := Bx.mk hbl4; have HBB4 := Bx.mk hbb4; clear hbt4 hbl4 hbb4)
      go_ret
      refine ⟨b4, c4, ?_, ?_, HBB4.out, HBL4.out⟩
      · rw [HLEN.out]; rfl
      · rw [HLEN.out, ← HFIN.out]; exact HBT4.out
    · have eN : T ++ LB = N := by rw [HN.out, if_neg h0]
      have g0 : (n : Int) > 0 := by omega
      clear HT HN hk h0
      go_enter Tryz.func21, Tryz.ntmps21
      go_wp2_with fail
      refine (C1.out _ HB1.out).mono ?_
      rintro e w2 ⟨rfl, hb2⟩
      have HB2 := Bx.mk (bstep HB1.out hb2)
      have HROW2 : Bx (w2.heap[w.heap.size]? = some (.cells #[.string x.m, .string x.t, .string x.k, .slice a n c] 28 (0, 0))) := ⟨by rw [hb2.block _ (by have := HSZ.out; omega)]; exact HROW.out⟩
      have HBT2 := Bx.mk (HBT.out.below hb2)
      have HS2 := Bx.mk hb2.size
      clear hb2
      obtain ⟨c2, w3, hcv, hb3, hC⟩ := HCV.out w2
      have HB3 : Bx (Below w.heap.size w w3) := ⟨bstep HB2.out hb3⟩
      have hr3 : w3.heap[w.heap.size]? = some (.cells #[.string x.m, .string x.t, .string x.k, .slice a n c] 28 (0, 0)) := by rw [hb3.block _ (by have := HSZ.out; have := HS2.out; omega)]; exact HROW2.out
      have k3 : w3.cell? ⟨w.heap.size, 3, none⟩ = some (.slice a n c) := by rw [cell_of_row w3 w.heap.size 3 _ _ (0, 0) hr3]; rfl
      have HBT3 := Bx.mk (HBT2.out.below hb3)
      have HC := Bx.mk hC
      have HBS : Bx (w.heap.size ≤ (w2).heap.size) := ⟨HB2.out.size⟩
      clear hb3 hC hr3
      go_wp2_with (at_builtin; refine wpList_append_cv rfl (.tmp 34) (.tmp 36) rfl HB3.out HBS.out HC.out rfl HSB.out.2 a n c x.b rfl HBT3.out (by have := HSB.out.1; omega) ?_; intro b4 c4 w4 hbt4 hbl4 hbb4; have HBT4 := Bx.mk hbt4; have HBL4 := Bx.mk hbl4; have HBB4 := Bx.mk hbb4; clear hbt4 hbl4 hbb4)
      go_ret
      refine ⟨b4, c4, ?_, ?_, HBB4.out, HBL4.out⟩
      · rw [HLEN.out]; rfl
      · rw [HLEN.out, ← HFIN.out]; exact HBT4.out
end Go.Proofs.YtpfijaojgeceeaaGreatDoor
namespace Go.Proofs.YtpfijaojgeceeaaGreatDoor
open Go.RowKit
set_option linter.unusedVariables false

def PrP (x : WX) (w : World) (e : Ending) (w' : World) : Prop := Below w.heap.size w w' ∧
  ((prB x = true ∧ ∃ b' c', e = .returned (.tuple #[.slice (some ⟨b', 0, none⟩) (wrL x).length c', .int .i64 0]) ∧ Bts w' (some ⟨b', 0, none⟩) (wrL x).length c' (wrL x)) ∨
   (prB x = false ∧ e = .returned (.tuple #[.slice none 0 0, .int .i64 4])))
set_option maxRecDepth 100000 in
set_option maxHeartbeats 2000000 in
theorem wprint5_any (x : WX) (a : Option Addr) (n c : Nat) (w : World) (hb : Bts w a n c x.b) (hs : Sm5 x) (he : Env w.heap.size w) :
    Calls Tryz.prog 11 #[reqV x (.slice a n c)] w (PrP x w) := by
  have hB1 : Below w.heap.size w (w.alloc (.cells #[.string x.m, .string x.t, .string x.k, .slice a n c] 28)) := (Below.refl _ _).alloc (Nat.le_refl _) _
  have HB1 := Bx.mk hB1
  have HBT := Bx.mk (hb.below hB1)
  have HE := Bx.mk he
  have HS := Bx.mk hs
  have HROW : Bx ((w.alloc (.cells #[.string x.m, .string x.t, .string x.k, .slice a n c] 28)).heap[w.heap.size]? = some (.cells #[.string x.m, .string x.t, .string x.k, .slice a n c] 28 (0, 0))) := ⟨heap_alloc_new w _⟩
  have HSZ : Bx ((w.alloc (.cells #[.string x.m, .string x.t, .string x.k, .slice a n c] 28)).heap.size = w.heap.size + 1) := ⟨by simp⟩
  have C1 : Hid (Calls Tryz.prog 21 #[.agg #[.string x.m, .string x.t, .string x.k, .slice a n c]] (w.alloc (.cells #[.string x.m, .string x.t, .string x.k, .slice a n c] 28)) fun e w' => ∃ b' c', e = .returned (.slice (some ⟨b', 0, none⟩) (wrL x).length c') ∧ Bts w' (some ⟨b', 0, none⟩) (wrL x).length c' (wrL x) ∧ (w.alloc (.cells #[.string x.m, .string x.t, .string x.k, .slice a n c] 28)).heap.size ≤ b' ∧ Below (w.alloc (.cells #[.string x.m, .string x.t, .string x.k, .slice a n c] 28)).heap.size (w.alloc (.cells #[.string x.m, .string x.t, .string x.k, .slice a n c] 28)) w') := wwritten_any x a n c _ HBT.out hs (he.up hB1)
  unfold reqV
  generalize hw1 : w.alloc (.cells #[.string x.m, .string x.t, .string x.k, .slice a n c] 28) = W1 at *
  clear hB1 hb hs he
  go_enter Tryz.func11, Tryz.ntmps11
  go_wp2_with (refine wpList_load_row rfl 28 (.tmp 1) rfl w.heap.size rfl 28 #[.string x.m, .string x.t, .string x.k, .slice a n c] (0, 0) _ HROW.out Tryz.underlying28 rfl req_info ?_)
  refine C1.out.mono ?_
  rintro e w2 ⟨b2, c2, rfl, hbt2, hbb2, hb2⟩
  clear hw1 C1
  have HB2 := Bx.mk (bstep HB1.out hb2)
  have HBT2 := Bx.mk hbt2
  have HXB2 := Bx.mk (HBT.out.below hb2)
  have HROW2 : Bx (w2.heap[w.heap.size]? = some (.cells #[.string x.m, .string x.t, .string x.k, .slice a n c] 28 (0, 0))) := ⟨by rw [hb2.block _ (by have := HSZ.out; omega)]; exact HROW.out⟩
  clear hbt2 hbb2 hb2
  go_wp2_with fail
  refine (wwhole_any _ _ _ _ _ HBT2.out (HE.out.up HB2.out)).mono ?_
  rintro e w3 ⟨v3, rfl, hy3, ho3, hb3⟩
  obtain ⟨va, vc, rfl, hq3⟩ := wh_body hy3 ho3
  have HPT : Bx (prT x = runQ wp0 ws0 (wrL x) 0) := ⟨rfl⟩
  have HPB : Bx (prB x = (decide ((prT x).2.2 = 0) && (decide ((prT x).2.1 = (wrL x).length) && smW x (prT x).1))) := ⟨rfl⟩
  rw [HPT.out] at HPB
  generalize runQ wp0 ws0 (wrL x) 0 = T at *
  obtain ⟨T1, T2, T3⟩ := T
  have hb4 : Below w3.heap.size w3 (w3.alloc (.cells #[.string T1.m, .string T1.t, .string T1.k, .slice va T1.b.length vc] 28)) := (Below.refl _ _).alloc (Nat.le_refl _) _
  have HB4 := Bx.mk (bstep (bstep HB2.out hb3) hb4)
  have HBT4 := Bx.mk ((HBT2.out.below hb3).below hb4)
  have HXB4 := Bx.mk ((HXB2.out.below hb3).below hb4)
  have HQ4 := Bx.mk (hq3.below hb4)
  have hz2 := (Array.getElem?_eq_some_iff.1 HROW2.out).1
  have HRX : Bx ((w3.alloc (.cells #[.string T1.m, .string T1.t, .string T1.k, .slice va T1.b.length vc] 28)).heap[w.heap.size]? = some (.cells #[.string x.m, .string x.t, .string x.k, .slice a n c] 28 (0, 0))) := ⟨by rw [hb4.block _ (Nat.lt_of_lt_of_le hz2 hb3.size), hb3.block _ hz2]; exact HROW2.out⟩
  have HRY : Bx ((w3.alloc (.cells #[.string T1.m, .string T1.t, .string T1.k, .slice va T1.b.length vc] 28)).heap[w3.heap.size]? = some (.cells #[.string T1.m, .string T1.t, .string T1.k, .slice va T1.b.length vc] 28 (0, 0))) := ⟨heap_alloc_new w3 _⟩
  obtain ⟨W4, hW4⟩ : ∃ W4, w3.alloc (.cells #[.string T1.m, .string T1.t, .string T1.k, .slice va T1.b.length vc] 28) = W4 := ⟨_, rfl⟩
  rw [hW4] at HB4 HBT4 HXB4 HQ4 HRX HRY
  have HW4 := Bx.mk hW4
  have C2 : Hid (Calls Tryz.prog 22 #[.agg #[.string x.m, .string x.t, .string x.k, .slice a n c], .agg #[.string T1.m, .string T1.t, .string T1.k, .slice va T1.b.length vc]] W4 fun e w' => e = .returned (.bool (smW x T1)) ∧ Below W4.heap.size W4 w') := wsame_any x T1 a va n T1.b.length c vc W4 HXB4.out HQ4.out
  have x0 : W4.cell? ⟨w.heap.size, 0, none⟩ = some (.string x.m) := by rw [cell_of_row _ w.heap.size 0 _ _ (0, 0) HRX.out]; rfl
  have x1 : W4.cell? ⟨w.heap.size, 1, none⟩ = some (.string x.t) := by rw [cell_of_row _ w.heap.size 1 _ _ (0, 0) HRX.out]; rfl
  have x2 : W4.cell? ⟨w.heap.size, 2, none⟩ = some (.string x.k) := by rw [cell_of_row _ w.heap.size 2 _ _ (0, 0) HRX.out]; rfl
  have x3 : W4.cell? ⟨w.heap.size, 3, none⟩ = some (.slice a n c) := by rw [cell_of_row _ w.heap.size 3 _ _ (0, 0) HRX.out]; rfl
  have y0 : W4.cell? ⟨w3.heap.size, 0, none⟩ = some (.string T1.m) := by rw [cell_of_row _ w3.heap.size 0 _ _ (0, 0) HRY.out]; rfl
  have y1 : W4.cell? ⟨w3.heap.size, 1, none⟩ = some (.string T1.t) := by rw [cell_of_row _ w3.heap.size 1 _ _ (0, 0) HRY.out]; rfl
  have y2 : W4.cell? ⟨w3.heap.size, 2, none⟩ = some (.string T1.k) := by rw [cell_of_row _ w3.heap.size 2 _ _ (0, 0) HRY.out]; rfl
  have y3 : W4.cell? ⟨w3.heap.size, 3, none⟩ = some (.slice va T1.b.length vc) := by rw [cell_of_row _ w3.heap.size 3 _ _ (0, 0) HRY.out]; rfl
  simp only at HPB
  have HLX : Bx ((wrL x).length < 1000000) := ⟨by unfold wrL; rw [List.length_append, strL_length]; have := (wrB_size5 HS.out).1; have := HS.out.b; omega⟩
  obtain ⟨N, hN⟩ : ∃ N, (wrL x).length = N := ⟨_, rfl⟩
  rw [hN] at HPB HBT4 HLX ⊢
  have HNN := Bx.mk hN
  clear hW4 hb4 hb3 ho3 hq3 hy3 hz2 HBT2 HXB2 HROW HROW2 HBT hN HPT
  generalize hSM : smW x T1 = SM at *
  unfold reqV
  simp only
  go_upto_region 3 with (rw [HW4.out]; clear HW4)
  by_cases h3 : T3 = 0
  · have g3 : (T3 != 0) = false := by simpa using h3
    by_cases h2 : T2 = N
    · have g2 : ((T2 : Int) != (N : Int)) = false := by simp [h2]
      have HR : Bx (prB x = SM) := ⟨by rw [HPB.out, decide_eq_true h3, decide_eq_true h2]; rfl⟩
      clear h3 h2 HPB
      go_wp2_with fail
      refine C2.out.mono ?_
      rintro e w6 ⟨rfl, hb6⟩
      have HB6 := Bx.mk (bstep HB4.out hb6)
      have HBT6 := Bx.mk (HBT4.out.below hb6)
      clear hb6
      cases SM with
      | true =>
        go_wp2
        go_ret2
        exact ⟨HB6.out, .inl ⟨HR.out, b2, c2, by rw [HNN.out]; rfl, by rw [HNN.out]; exact HBT6.out⟩⟩
      | false =>
        go_wp2
        go_ret2
        exact ⟨HB6.out, .inr ⟨HR.out, rfl⟩⟩
    · have g2 : ((T2 : Int) != (N : Int)) = true := by simp; omega
      have HR : Bx (prB x = false) := ⟨by rw [HPB.out, decide_eq_false h2]; simp⟩
      clear h3 h2 HPB
      go_wp2
      go_ret2
      exact ⟨HB4.out, .inr ⟨HR.out, rfl⟩⟩
  · have g3 : (T3 != 0) = true := by simpa using h3
    have HR : Bx (prB x = false) := ⟨by rw [HPB.out, decide_eq_false h3]; rfl⟩
    clear h3 HPB
    go_wp2
    go_ret2
    exact ⟨HB4.out, .inr ⟨HR.out, rfl⟩⟩
set_option maxRecDepth 100000 in
theorem wprint_any (x : WX) (a : Option Addr) (n c : Nat) (w : World) (hb : Bts w a n c x.b) (hs : Sml x) (he : Env w.heap.size w) :
    Calls Tryz.prog 11 #[reqV x (.slice a n c)] w (PrP x w) := wprint5_any x a n c w hb hs.five he
end Go.Proofs.YtpfijaojgeceeaaGreatDoor
namespace Go.Proofs.YtpfijaojgeceeaaGreatDoor
open Go.RowKit
set_option linter.unusedVariables false

structure SzH (h : HD) : Prop where
  m : h.m.size ≤ 10
  t : h.t.size ≤ 100
  k : h.k.size ≤ 1100
  n : h.n ≤ 2048
def SzI : WS → Prop
  | .head h _ cntT cur => SzH h ∧ cur.length ≤ cntT ∧ cntT ≤ 1024
  | .fix h left body => SzH h ∧ body.length + left ≤ 2048 ∧ 1 ≤ left
  | .chk h c => SzH h ∧ CI 2048 c
  | .done x => x.m.size ≤ 10 ∧ x.t.size ≤ 100 ∧ x.k.size ≤ 1100 ∧ x.b.length ≤ 2048
set_option maxRecDepth 100000 in
theorem fst_sz {l : List Int} {m t : ByteArray} (h : fstV l = some (m, t)) : m.size ≤ 10 ∧ t.size ≤ 100 := by
  unfold fstV at h
  split at h
  · rename_i m0 t0 v0 _
    split at h
    · rename_i hc
      cases h
      obtain ⟨_, hm, ht⟩ := hc
      unfold tgB at ht
      simp only [Bool.and_eq_true, decide_eq_true_eq] at ht
      rw [strOf_size, strOf_size]
      refine ⟨?_, by omega⟩
      rcases hm with rfl | rfl | rfl <;> decide
    · cases h
  · cases h
set_option maxRecDepth 100000 in
theorem say_sz {h : HD} {n v : List Int} (hs : SzH h) (hv : v.length ≤ 1024) : SzH (sayV h n v).1 := by
  unfold sayV
  split
  · split
    · exact hs
    · exact ⟨hs.m, hs.t, by show (strOf (v.drop 7)).size ≤ 1100; rw [strOf_size, List.length_drop]; omega, hs.n⟩
  · split
    · split
      · exact hs
      · exact ⟨hs.m, hs.t, hs.k, hs.n⟩
    · split
      · split
        · exact hs
        · split
          · exact hs
          · rename_i q _
            split
            · exact hs
            · split
              · exact hs
              · exact ⟨hs.m, hs.t, hs.k, by show q ≤ 2048; omega⟩
      · exact hs
set_option maxRecDepth 100000 in
theorem eol_sz {h : HD} {lines cntT : Nat} {l : List Int} (hs : SzH h) (hl : l.length ≤ cntT) (hc : cntT ≤ 1024) : SzI (eol wp0 h lines cntT l).1 := by
  unfold eol
  split
  · split
    · exact ⟨hs, hl, hc⟩
    · rename_i m t hF
      have := fst_sz hF
      exact ⟨⟨this.1, this.2, hs.k, hs.n⟩, Nat.zero_le _, hc⟩
  · split
    · unfold bgQ
      split
      · exact ⟨hs, CI.new (by decide)⟩
      · split
        · exact ⟨hs.m, hs.t, hs.k, Nat.zero_le _⟩
        · exact ⟨hs, by simpa using hs.n, by omega⟩
    · split
      · exact ⟨hs, hl, hc⟩
      · refine ⟨?_, Nat.zero_le _, hc⟩
        show SzH (furV h l).1
        unfold furV
        split
        · exact hs
        · exact say_sz hs (by rw [List.length_drop]; omega)
set_option maxRecDepth 100000 in
theorem wst_sz {s : WS} (hs : SzI s) {b : Int} (hb : 0 ≤ b ∧ b ≤ 255) (h0 : (wst wp0 s b).2 = 0) : SzI (wst wp0 s b).1 := by
  cases s with
  | head h lines cntT cur =>
    obtain ⟨h1, h2, h3⟩ := hs
    simp only [wst] at h0 ⊢
    split
    · rename_i hc; rw [if_pos hc] at h0; simp at h0
    · split
      · exact eol_sz h1 (by rw [List.length_dropLast]; omega) (by omega)
      · split
        · exact ⟨h1, h2, h3⟩
        · exact ⟨h1, by rw [List.length_append]; show _ + 1 ≤ _; omega, by omega⟩
  | fix h left body =>
    obtain ⟨h1, h2, h3⟩ := hs
    simp only [wst]
    split
    · exact ⟨h1.m, h1.t, h1.k, by show (body ++ [b]).length ≤ 2048; rw [List.length_append]; show _ + 1 ≤ _; omega⟩
    · rename_i h4
      exact ⟨h1, by rw [List.length_append]; show _ + 1 + (left - 1) ≤ 2048; omega, by omega⟩
  | chk h c =>
    obtain ⟨h1, h2⟩ := hs
    simp only [wst] at h0 ⊢
    split
    · exact ⟨h1, h2⟩
    · rename_i he
      have h3 := (h2.stp hb (by simpa using he)).1
      split
      · exact ⟨h1.m, h1.t, h1.k, h3.b⟩
      · exact ⟨h1, h3⟩
  | done x => simp [wst] at h0
set_option maxRecDepth 100000 in
theorem run_sz : ∀ (l : List Int) (s : WS) (k : Nat), SzI s → Byt l → (runQ wp0 s l k).2.2 = 0 → SzI (.done (runQ wp0 s l k).1)
  | [], s, k, hs, _, h0 => by
    cases ho : s.over with
    | true =>
      cases s with
      | done x => exact hs
      | head h l c u => cases ho
      | fix h n u => cases ho
      | chk h c => cases ho
    | false => rw [runQ_nil wp0 ho] at h0; simp at h0
  | b :: r, s, k, hs, hb, h0 => by
    cases ho : s.over with
    | true =>
      cases s with
      | done x => rw [runQ_done]; exact hs
      | head h l c u => cases ho
      | fix h n u => cases ho
      | chk h c => cases ho
    | false =>
      rw [runQ_cons wp0 ho] at h0 ⊢
      by_cases he : (wst wp0 s b).2 ≠ 0
      · rw [if_pos he] at h0; exact absurd h0 he
      · rw [if_neg he] at h0 ⊢
        exact run_sz r _ _ (wst_sz hs (hb b (by simp)) (by simpa using he)) (fun c hc => hb c (by simp [hc])) h0
set_option maxRecDepth 100000 in
theorem wrL_byt {x : WX} (h : Byt x.b) : Byt (wrL x) := (strL_byt _).append h
set_option maxRecDepth 100000 in
/-- a request that is one is not long -/
theorem prB_small {x : WX} (hb : Byt x.b) (h : prB x = true) : x.m.size ≤ 10 ∧ x.t.size ≤ 100 ∧ x.k.size ≤ 1100 ∧ x.b.length ≤ 2048 := by
  have e := (prB_iff x).1 h
  have h0 : (runQ wp0 ws0 (wrL x) 0).2.2 = 0 := by show (prT x).2.2 = 0; rw [e]
  have hz : SzI ws0 := ⟨⟨by decide, by decide, by decide, by decide⟩, Nat.le_refl _, Nat.zero_le _⟩
  have := run_sz (wrL x) ws0 0 hz (wrL_byt hb) h0
  have e1 : (runQ wp0 ws0 (wrL x) 0).1 = x := by show (prT x).1 = x; rw [e]
  rw [e1] at this
  exact this
end Go.Proofs.YtpfijaojgeceeaaGreatDoor
namespace Go.Proofs.YtpfijaojgeceeaaGreatDoor
open Go.RowKit
set_option linter.unusedVariables false

set_option maxRecDepth 100000 in
/-- a body that is too long is no request of the wire's -/
theorem prt_big {a : As} (k : ByteArray) (hby : Byt (prtX a).b) (hb : 2048 < (prtX a).b.length) : prB ⟨(prtX a).m, (prtX a).t, k, (prtX a).b⟩ = false := by
  cases e : prB ⟨(prtX a).m, (prtX a).t, k, (prtX a).b⟩ with
  | false => rfl
  | true =>
    have h1 := (prB_small (x := ⟨(prtX a).m, (prtX a).t, k, (prtX a).b⟩) hby e).2.2.2
    have h2 : (prtX a).b.length ≤ 2048 := h1
    omega
set_option maxRecDepth 100000 in
/-- .. one that is not is read back -/
theorem prt_back {a : As} (h : (prtV a).2 = 0) {k : ByteArray} (hk : LnB (strL k)) (hks : k.size ≤ 60) (hb : (prtX a).b.length ≤ 2048) : runQ wp0 ws0 (wrL ⟨(prtX a).m, (prtX a).t, k, (prtX a).b⟩) 0 = (⟨(prtX a).m, (prtX a).t, k, (prtX a).b⟩, (wrL ⟨(prtX a).m, (prtX a).t, k, (prtX a).b⟩).length, 0) := (prB_iff _).1 (prt_wok h hk hks hb)
set_option maxRecDepth 100000 in
/-- the sizes that Print asks for -/
theorem decS_le {n : Int} (h0 : -9223372036854775808 ≤ n) (h1 : n ≤ 9223372036854775807) : (decS n).size ≤ 21 := decS_size h0 h1
set_option maxRecDepth 100000 in
theorem tgtP_size {a : As} (h1 : a.nm.size ≤ 30) (h2 : a.sp.size ≤ 30) (hA : -9223372036854775808 ≤ a.A ∧ a.A ≤ 9223372036854775807) (hB : -9223372036854775808 ≤ a.B ∧ a.B ≤ 9223372036854775807) : (tgtP a).size ≤ 100 := by
  have d1 := decS_size hA.1 hA.2
  have d2 := decS_size hB.1 hB.2
  have e1 : (⟨#[47, 117, 112, 108, 111, 97, 100, 115, 47]⟩ : ByteArray).size = 9 := rfl
  have e2 : (⟨#[47, 104, 105, 115, 116, 111, 114, 105, 101, 115, 47]⟩ : ByteArray).size = 11 := rfl
  have e3 : (⟨#[47, 115, 112, 101, 99, 115, 47]⟩ : ByteArray).size = 7 := rfl
  have e4 : (⟨#[47, 106, 111, 98, 115, 47]⟩ : ByteArray).size = 6 := rfl
  have e5 : (⟨#[47, 104, 101, 97, 100, 115, 47]⟩ : ByteArray).size = 7 := rfl
  have e6 : (⟨#[47, 101, 110, 116, 114, 105, 101, 115, 47]⟩ : ByteArray).size = 9 := rfl
  have e7 : (⟨#[47, 103, 114, 111, 119, 116, 104, 47]⟩ : ByteArray).size = 8 := rfl
  have e8 : (⟨#[47]⟩ : ByteArray).size = 1 := rfl
  have e9 : (⟨#[47, 117, 115, 97, 103, 101]⟩ : ByteArray).size = 6 := rfl
  have e10 : (⟨#[47, 104, 101, 97, 100]⟩ : ByteArray).size = 5 := rfl
  have e11 : (⟨#[]⟩ : ByteArray).size = 0 := rfl
  unfold tgtP
  repeat' split
  all_goals (simp only [size_append, e1, e2, e3, e4, e5, e6, e7, e8, e9, e10, e11]; omega)
set_option maxRecDepth 100000 in
theorem prtX_five {a : As} (h1 : a.nm.size ≤ 30) (h2 : a.sp.size ≤ 30) (hA : -9223372036854775808 ≤ a.A ∧ a.A ≤ 9223372036854775807) (hB : -9223372036854775808 ≤ a.B ∧ a.B ≤ 9223372036854775807) (hb : a.b.length ≤ 4200) {k : ByteArray} (hk : k.size ≤ 60) : Sm5 ⟨(prtX a).m, (prtX a).t, k, (prtX a).b⟩ := by
  have ht := tgtP_size h1 h2 hA hB
  refine ⟨?_, by show (tgtP a).size ≤ 200; omega, by show k.size ≤ 1200; omega, ?_⟩
  · show (mthK a.k).size ≤ 50
    unfold mthK
    repeat' split
    all_goals decide
  · show (if a.k = 1 ∨ a.k = 3 then a.b else []).length ≤ 5000
    split
    · omega
    · exact Nat.zero_le _
end Go.Proofs.YtpfijaojgeceeaaGreatDoor
