/- What the laws of clash ask besides: whether what is answered is a clash just if there must be one; that one is found at all; the document's own Path. -/
import Derived.Test.YtfkloilbjfleeaaDoorCPath
import Derived.Test.YtfkloilbjfleeaaDoorCIs
import Derived.Test.YtfkloilbjfleeaaDoorRefRoot
import Derived.Test.YtfkloilbjfleeaaDoorRefCheck
import Derived.Test.YtfkloilbjfleeaaDoorSme
namespace Go.Proofs.YtfkloilbjfleeaaDoor
open Go.RowKit
set_option linter.unusedVariables false

set_option maxRecDepth 100000 in
theorem cans_form {must : Bool} {x : Int} {e : Ending} {w' : World} (h : CAns must x e w') : ∃ a n c b m d A B, e = .returned (.tuple #[.agg #[.slice a n c, .slice b m d], .bool must]) ∧ Bts w' a n c A ∧ Bts w' b m d B ∧ n ≤ 1000000 ∧ m ≤ 1000000 ∧ (must = true → clashB A B x = true) ∧ (must = false → n = 0 ∧ m = 0) := by
  cases must with
  | true =>
    obtain ⟨a, n, c, b, m, d, A, B, h1, h2, h3, h4, h5, h6⟩ := h.2 rfl
    exact ⟨a, n, c, b, m, d, A, B, h1, h2, h3, h4, h5, fun _ => h6, fun h => (by cases h)⟩
  | false => exact ⟨none, 0, 0, none, 0, 0, [], [], h.1 rfl, Bts.none rfl, Bts.none rfl, by decide, by decide, fun h => (by cases h), fun _ => ⟨rfl, rfl⟩⟩
set_option maxRecDepth 100000 in
/-- a guarded load of a clash's variable -/
theorem wpList_load_guarded25 {ops : Array Oper} {rest : List Oper} {o : Oper} {a : Act} {w : World} {Q : Exit → Act → World → Prop} {b : Nat} {D : Array Value} (hw : Region.wanted o (yielded ops a.tmps) = true) (x : Operand) (ho : o.op = .load 25 x) (hx : a.eval x = .pointer (some ⟨b, 0, none⟩))
    (hr : w.heap[b]? = some (.cells D 25 (0, 0))) (hi : (Tryd.prog.info? 25).map (·.size) = some D.size) (h : wpList Tryd.prog ops Q rest (a.put o.dst (.agg D)) w) : wpList Tryd.prog ops Q (o :: rest) a w :=
  wpList_step fun K hK => by
    rw [if_pos hw]
    exact wp_load_mid 25 x ho b 0 hx D.toList _ (range_row hr) Tryd.underlying25 rfl (by rw [Array.length_toList]; exact hi) (hK _ _ h)

set_option maxRecDepth 100000 in
set_option maxHeartbeats 400000 in
theorem found_any (a b : Option Addr) (n m c d : Nat) (A B : List Int) (must : Bool) (x : Int) (w : World) (hA : Bts w a n c A) (hB : Bts w b m d B) (hn : n ≤ 1000000) (hm : m ≤ 1000000) (h1 : must = true → clashB A B x = true) (h2 : must = false → n = 0 ∧ m = 0) (htab : Tab w) :
    Calls Tryd.prog 19 #[.agg #[.slice a n c, .slice b m d], .bool must, .bool must, .int .i64 x] w fun e w' => e = .returned (.bool true) ∧ Below w.heap.size w w' := by
  have hcc := cc_new hA hB htab
  cases must with
  | false =>
    obtain ⟨rfl, rfl⟩ := h2 rfl
    have hc0 := hcc.c0
    have hc1 := hcc.c1
    have HL : Bx _ := ⟨hcc.low⟩
    clear hcc hA hB h1 h2 htab
    go_enter Tryd.func19, Tryd.ntmps19
    go_wp2
    go_ret
    exact ⟨rfl, HL.out⟩
  | true =>
    have h := h1 rfl
    have HIS : Bx (∀ W, Below w.heap.size w W → Calls Tryd.prog 10 #[.agg #[.slice a n c, .slice b m d], .int .i64 x] W fun e w' => e = .returned (.bool true) ∧ Below W.heap.size W w') := ⟨fun W hW => by rw [← h]; exact refis_any a b n m c d A B x W (hA.below hW) (hB.below hW) (htab.below hW) hn hm⟩
    have HR : Bx _ := ⟨hcc.row⟩
    have HL : Bx _ := ⟨hcc.low⟩
    clear hcc hA hB h1 h2 htab h
    go_enter Tryd.func19, Tryd.ntmps19
    go_wp2_with (refine wpList_load_guarded25 (b := w.heap.size) (D := #[.slice a n c, .slice b m d]) rfl (.tmp 4) rfl rfl HR.out cls_info ?_)
    refine (HIS.out _ HL.out).mono ?_
    rintro e w1 ⟨rfl, hb1⟩
    have hlow := bstep HL.out hb1
    clear HL HR hb1 HIS
    go_wp2
    go_ret
    exact ⟨rfl, hlow⟩

set_option maxRecDepth 100000 in
theorem must_lives : mustP [[97]] 0 [98] [] 0 = true := by
  have hz : ∀ d, Dg d → cutL d 0 = List.replicate 32 0 := fun d hd => cutN_zero d hd
  have hl : ∀ b, leafL b 0 = List.replicate 32 0 := fun b => hz _ ⟨sumL_length _, sum_byt _⟩
  have hL : leavesL [[97]] 0 = [List.replicate 32 0] := by show [leafL [97] 0] = _; rw [hl]
  unfold mustP
  rw [decide_eq_true ⟨by decide, by decide, by decide⟩, Bool.true_and, hL, hl, rootL_one _ _ rfl]
  unfold chkP
  rw [show stepsL (Int.toNat ([[97]] : List (List Int)).length) (Int.toNat 0) = [] from stepsL_one 0 (by decide)]
  decide

set_option maxRecDepth 100000 in
set_option maxHeartbeats 1000000 in
theorem lives7_any (w : World) (htab : Tab w) :
    Calls Tryd.prog 11 #[] w fun e w' => e = .returned (.bool true) ∧ Below w.heap.size w w' := by
  have hb1 := bts_one w 97 (by decide)
  have hl1 : Below w.heap.size w (w.alloc (.cells #[.int .u8 97] 5)) := (Below.refl _ _).alloc (Nat.le_refl _) _
  have hs1 : (w.alloc (.cells #[.int .u8 97] 5)).heap.size = w.heap.size + 1 := by simp
  go_enter Tryd.func11, Tryd.ntmps11
  go_wp2_with fail
  generalize w.alloc (.cells #[.int .u8 97] 5) = w1 at hb1 hl1 hs1 ⊢
  have hl2 : Below w1.heap.size w1 (w1.alloc (.cells #[.slice (some ⟨w.heap.size, 0, none⟩) 1 1] 22)) := (Below.refl _ _).alloc (Nat.le_refl _) _
  have hr2 : (w1.alloc (.cells #[.slice (some ⟨w.heap.size, 0, none⟩) 1 1] 22)).heap[w1.heap.size]? = some (.cells #[.slice (some ⟨w.heap.size, 0, none⟩) 1 1] 22 (0, 0)) := heap_alloc_new _ _
  have hs2 : (w1.alloc (.cells #[.slice (some ⟨w.heap.size, 0, none⟩) 1 1] 22)).heap.size = w1.heap.size + 1 := by simp
  generalize w1.alloc (.cells #[.slice (some ⟨w.heap.size, 0, none⟩) 1 1] 22) = w2 at hl2 hr2 hs2 ⊢
  have hb3 := bts_one w2 98 (by decide)
  have hl3 : Below w2.heap.size w2 (w2.alloc (.cells #[.int .u8 98] 5)) := (Below.refl _ _).alloc (Nat.le_refl _) _
  generalize w2.alloc (.cells #[.int .u8 98] 5) = w3 at hb3 hl3 ⊢
  rw [hs1] at hr2
  rw [hs2, hs1] at hb3
  have hlow3 := bstep (bstep hl1 hl2) hl3
  have hT : Txs w3 (some ⟨w.heap.size + 1, 0, none⟩) 1 1 [[97]] := ⟨rfl, Nat.le_refl _, by unfold maxLen; omega, fun _ => ⟨w.heap.size + 1, 0, rfl, (Array.getElem?_eq_some_iff.1 (row_step hr2 hl3)).1, fun i hi => by
    obtain rfl : i = 0 := by omega
    exact ⟨some ⟨w.heap.size, 0, none⟩, 1, 1, cell_of_row _ _ 0 _ _ (0, 0) (row_step hr2 hl3), hb1.below (bstep hl2 hl3)⟩⟩⟩
  refine (cpath_any _ 1 1 [[97]] 0 _ 1 1 [98] none 0 0 [] 0 _ hT (fun t ht => (by simp at ht; subst ht; decide)) (by decide) hb3 (by decide) dgs_nil (by decide) (htab.below hlow3)).mono ?_
  rintro e w4 ⟨hans, hb4⟩
  rw [must_lives] at hans
  obtain ⟨a, n, c, b, m, d, A, B, rfl, hA, hB, hn, hm, h1, _⟩ := cans_form hans
  have hcl := h1 rfl
  have hlow4 := bstep hlow3 hb4
  have hcc := cc_new hA hB (htab.below hlow4)
  have HIS : Bx (∀ W, CC w4.heap.size a b n m c d A B w4 W → Calls Tryd.prog 9 #[.agg #[.slice a n c, .slice b m d], .int .i64 0] W fun e w' => e = .returned (.bool true) ∧ Below W.heap.size W w') := ⟨fun W h => by rw [← hcl]; exact is_any a b n m c d A B 0 W h.fst h.snd h.tab hn hm⟩
  have HRI : Bx (∀ W, CC w4.heap.size a b n m c d A B w4 W → Calls Tryd.prog 10 #[.agg #[.slice a n c, .slice b m d], .int .i64 0] W fun e w' => e = .returned (.bool true) ∧ Below W.heap.size W w') := ⟨fun W h => by rw [← hcl]; exact refis_any a b n m c d A B 0 W h.fst h.snd h.tab hn hm⟩
  have HCC : Bx _ := ⟨hcc⟩
  have HR : Bx _ := ⟨hcc.row⟩
  clear hans hb1 hl1 hs1 hl2 hr2 hs2 hb3 hl3 hT hA hB h1 hcl hb4 hlow3 hcc
  go_wp2_with (refine wpList_load_guarded25 (b := w4.heap.size) (D := #[.slice a n c, .slice b m d]) rfl (.tmp 1) rfl rfl HR.out cls_info ?_)
  have hcc := HCC.out
  clear HCC HR
  generalize w4.alloc (.cells #[.slice a n c, .slice b m d] 25) = w5 at hcc ⊢
  refine (HRI.out _ hcc).mono ?_
  rintro e w6 ⟨rfl, hb6⟩
  have hcc6 := hcc.step hb6
  have HR6 : Bx _ := ⟨hcc6.row⟩
  clear hcc hb6 HRI
  go_wp2_with (refine wpList_load_guarded25 (b := w4.heap.size) (D := #[.slice a n c, .slice b m d]) rfl (.tmp 1) rfl rfl HR6.out cls_info ?_)
  refine (HIS.out _ hcc6).mono ?_
  rintro e w7 ⟨rfl, hb7⟩
  have hlow := bstep hlow4 (hcc6.step hb7).low
  clear hcc6 hb7 HIS HR6
  go_wp2
  go_ret
  exact ⟨rfl, hlow⟩

set_option maxRecDepth 100000 in
set_option maxHeartbeats 1000000 in
theorem refpath7_any (a : Option Addr) (len cap : Nat) (T : List (List Int)) (i : Int) (al : Option Addr) (ll cl : Nat) (lf : List Int) (ap : Option Addr) (lp cp : Nat) (P : List (List Int)) (x : Int) (w : World) (hT : Txs w a len cap T) (hf : ∀ t ∈ T, t.length ≤ 100000) (hl : len ≤ 1000)
    (hL : Bts w al ll cl lf) (hll : ll ≤ 100000) (hP : Dgs w ap lp cp P) (htab : Tab w) :
    Calls Tryd.prog 20 #[.slice a len cap, .int .i64 i, .slice al ll cl, .slice ap lp cp, .int .i64 x] w fun e w' => e = .returned (.bool (mustP T i lf P x)) ∧ Below w.heap.size w w' := by
  have hTL := hT.len_eq
  have hcc := hT.le_cap
  have hcm := hT.cap_le
  unfold maxLen at hcm
  by_cases hin : 0 ≤ i ∧ i < (len : Int)
  · obtain ⟨j, rfl⟩ : ∃ j : Nat, i = (j : Int) := ⟨i.toNat, by omega⟩
    have hj : j < len := by omega
    have g1 : decide ((j : Int) < 0) = false := by simp
    have g2 : decide (len ≤ j) = false := by simp; omega
    obtain ⟨b, off, rfl, hblt, hc⟩ := hT.spot (by omega)
    obtain ⟨ai, li, ci, hcell0, hbt0⟩ := hc j hj
    have hjI : (j : Int) < (len : Int) := by omega
    clear hc
    by_cases heq : T.getD j [] = lf
    · have HNO : Bx (false = mustP T (j : Int) lf P x) := ⟨by unfold mustP; rw [decide_eq_false (fun h => h.2.2 (by rw [show ((j : Int)).toNat = j from by omega, heq]))]; rfl⟩
      have HSM : Bx (Calls Tryd.prog 17 #[.slice ai li ci, .slice al ll cl] w fun e w' => e = .returned (.bool true) ∧ ∃ q, w' = w.drewN q) := ⟨by
        have h := same_any ai al li ll ci cl (T.getD j []) lf w hbt0 hL
        rw [decide_eq_true heq] at h; exact h⟩
      clear hT hL hP htab heq hbt0 hf hTL
      go_enter Tryd.func20, Tryd.ntmps20
      go_wp2_with fail
      refine HSM.out.mono ?_
      rintro e w1 ⟨rfl, q, rfl⟩
      have hlow : Below w.heap.size w (w.drewN q) := below_drewN (Below.refl _ _) q
      generalize w.drewN q = w1 at hlow ⊢
      clear HSM
      go_wp2
      go_ret
      exact ⟨ret_bool HNO.out, hlow⟩
    · have HMU : Bx (mustP T (j : Int) lf P x = chkP (rootL (leavesL T x) x) (len : Int) (j : Int) (leafL lf x) P x) := ⟨by
        unfold mustP
        rw [hTL, decide_eq_true ⟨by omega, by omega, by rw [show ((j : Int)).toNat = j from by omega]; exact heq⟩, Bool.true_and]⟩
      have HSM : Bx (Calls Tryd.prog 17 #[.slice ai li ci, .slice al ll cl] w fun e w' => e = .returned (.bool false) ∧ ∃ q, w' = w.drewN q) := ⟨by
        have h := same_any ai al li ll ci cl (T.getD j []) lf w hbt0 hL
        rw [decide_eq_false heq] at h; exact h⟩
      have HLV : Bx (∀ W, Below w.heap.size w W → Calls Tryd.prog 24 #[.slice (some ⟨b, off, none⟩) len cap, .int .i64 x] W fun e w' => ∃ a' c', e = .returned (.slice a' len c') ∧ Dgs w' a' len c' (leavesL T x) ∧ Below W.heap.size W w') := ⟨fun W hW => refleaves_any _ len cap T x W (hT.below hW) (fun t ht => Nat.le_trans (hf t ht) (by decide)) hl⟩
      have HLF : Bx (∀ W, Below w.heap.size w W → Calls Tryd.prog 43 #[.slice al ll cl, .int .i64 x] W fun e w' => e = .returned (.agg (bv (leafL lf x)).toArray) ∧ Below W.heap.size W w') := ⟨fun W hW => refleaf_any al ll cl lf x W (hL.below hW) (by omega)⟩
      have hshd := leafL_dg lf x
      have hLd := leavesL_dg T x
      have hRd := rootL_dg (leavesL T x) x hLd
      generalize leavesL T x = L at HLV HMU hLd hRd
      generalize leafL lf x = sh at HLF HMU hshd
      clear hT hL heq hbt0 hf hTL
      go_enter Tryd.func20, Tryd.ntmps20
      go_wp2_with fail
      refine HSM.out.mono ?_
      rintro e w1 ⟨rfl, q, rfl⟩
      have hlow : Below w.heap.size w (w.drewN q) := below_drewN (Below.refl _ _) q
      generalize w.drewN q = w1 at hlow ⊢
      clear HSM
      go_wp2_with fail
      refine (HLV.out _ hlow).mono ?_
      rintro e w2 ⟨la, lc, rfl, hlv, hb2⟩
      have hlow2 := bstep hlow hb2
      clear HLV hlow hb2
      go_wp2_with fail
      refine (refroot_any len la len lc L x _ (Nat.le_refl _) hlv (htab.below hlow2) (by omega)).mono ?_
      rintro e w3 ⟨rfl, hb3⟩
      have hlow3 := bstep hlow2 hb3
      clear hlow2 hb3 hlv
      generalize rootL L x = RT at HMU hRd ⊢
      go_wp2_with fail
      refine (HLF.out _ hlow3).mono ?_
      rintro e w4 ⟨rfl, hb4⟩
      have hlow4 := bstep hlow3 hb4
      clear hlow3 hb4 HLF
      go_wp2_with fail
      refine (refcheckpath_any RT len j sh ap lp cp P x _ hRd hshd (by omega) (hP.below hlow4)).mono ?_
      rintro e w5 ⟨rfl, hb5⟩
      have hlow5 := bstep hlow4 hb5
      clear hlow4 hb5
      generalize chkP RT (len : Int) (j : Int) sh P x = r at HMU ⊢
      go_wp2
      go_ret
      exact ⟨ret_bool HMU.out.symm, hlow5⟩
  · have HNO : Bx (false = mustP T i lf P x) := ⟨by unfold mustP; rw [decide_eq_false (fun h => hin ⟨h.1, by have := h.2.1; omega⟩)]; rfl⟩
    clear hT hL hP htab hf hTL
    by_cases h0 : i < 0
    · have g1 : decide (i < 0) = true := by simpa using h0
      clear hin
      go_enter Tryd.func20, Tryd.ntmps20
      go_wp2
      go_ret
      exact ⟨ret_bool HNO.out, Below.refl _ _⟩
    · have g1 : decide (i < 0) = false := by simpa using h0
      have g2 : decide (i ≥ (len : Int)) = true := by simp; omega
      clear hin
      go_enter Tryd.func20, Tryd.ntmps20
      go_wp2
      go_ret
      exact ⟨ret_bool HNO.out, Below.refl _ _⟩
end Go.Proofs.YtfkloilbjfleeaaDoor
