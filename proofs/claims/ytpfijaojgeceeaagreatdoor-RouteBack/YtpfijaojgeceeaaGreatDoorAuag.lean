/- The pieces of a row's form; a piece that is taken; a piece that is written. The pieces of a row's form; what pieces ask by a row. -/
import Derived.Test.YtpfijaojgeceeaaGreatDoorRtTab
import Derived.Test.YtpfijaojgeceeaaGreatDoorReadAny
import Derived.Test.YtpfijaojgeceeaaGreatDoorAuam
import Derived.Test.YtpfijaojgeceeaaGreatDoorAuao
import Derived.Test.YtpfijaojgeceeaaGreatDoorAuak
import Derived.Deep.CutRange
namespace Go.Proofs.YtpfijaojgeceeaaGreatDoor
open Go.RowKit
set_option linter.unusedVariables false

/-- what the library's and the package's variables hold -/
structure RtE (w : World) : Prop where
  t : Tens w
  e : Errs w
  r : Rtb w
set_option maxRecDepth 100000 in
theorem RtE.below {w w' : World} (h : RtE w) (hb : Below w.heap.size w w') : RtE w' := ⟨h.t.below hb, h.e.below hb, h.r.below hb⟩
set_option maxRecDepth 100000 in
theorem lit_str (p c : ByteArray) (u : List UInt8) (hu : c.toList = u) : (p.toList == u) = decide (p = c) := by rw [← hu]; exact str_beq p c
set_option maxRecDepth 100000 in
theorem nm_l (p : ByteArray) : (p.toList == [78, 65, 77, 69]) = decide (p = wNm) := lit_str p wNm _ (by rw [Lib.toList_data]; rfl)
set_option maxRecDepth 100000 in
theorem sp_l (p : ByteArray) : (p.toList == [83, 80, 69, 67]) = decide (p = wSp) := lit_str p wSp _ (by rw [Lib.toList_data]; rfl)
set_option maxRecDepth 100000 in
theorem a_l (p : ByteArray) : (p.toList == [65]) = decide (p = wA) := lit_str p wA _ (by rw [Lib.toList_data]; rfl)
set_option maxRecDepth 100000 in
theorem b_l (p : ByteArray) : (p.toList == [66]) = decide (p = wB) := lit_str p wB _ (by rw [Lib.toList_data]; rfl)
set_option maxRecDepth 100000 in
theorem below_drop {B g : Nat} {w0 w : World} (hb : Below B w0 w) (hB : B ≤ g) (o : Nat) (v : Value) : Below B w0 (w.setCell ⟨g, o, none⟩ v) := below_setCells (vs := [v]) (o := o) hb g hB
set_option maxHeartbeats 800000 in
set_option maxRecDepth 100000 in
theorem readPiece_any (p q : ByteArray) (a : As) (ab : Option Addr) (n c g B : Nat) (w0 w : World) (hr : w.heap[g]? = some (.cells (askV a ab n c) 24 (0, 0))) (hB : B ≤ g) (hb : Below B w0 w) (hE : RtE w) (hq : q.size ≤ 1000000) :
    Calls Tryz.prog 30 #[.pointer (some ⟨g, 0, none⟩), .string p, .string q] w fun e w' => e = .returned (.bool (rdPc a p q).2) ∧ w'.heap[g]? = some (.cells (askV (rdPc a p q).1 ab n c) 24 (0, 0)) ∧ Below B w0 w' := by
  have hg : g < w.heap.size := (Array.getElem?_eq_some_iff.1 hr).1
  have e1 := nm_l p
  have e2 := sp_l p
  have e3 := a_l p
  have e4 := b_l p
  have e5 := str_beq q p
  by_cases h1 : p = wNm
  · have HP : Bx (rdPc a p q = (⟨a.k, q, a.sp, a.b, a.A, a.B⟩, nameB q)) := ⟨by unfold rdPc; rw [if_pos h1]⟩
    rw [decide_eq_true h1] at e1
    have c1 : w.cell? ⟨g, 1, none⟩ = some (.string a.nm) := by rw [cell_of_row w g 1 _ _ (0, 0) hr]; rfl
    have f1 : w.frozen? ⟨g, 1, none⟩ = false := frozen_of_row _ _ 1 _ _ hr
    have C1 : Hid (∀ W, Calls Tryz.prog 40 #[.string q] W fun e w' => e = .returned (.bool (nameB q)) ∧ W = w') := fun W => (name_any q W (by omega)).mono fun e w' h => ⟨h.1, h.2.symm⟩
    have HF : Bx ((w.setCell ⟨g, 1, none⟩ (.string q)).heap[g]? = some (.cells (askV ⟨a.k, q, a.sp, a.b, a.A, a.B⟩ ab n c) 24 (0, 0))) := ⟨heap_setCell_same w g 1 _ _ _ hr⟩
    have HB : Bx (Below B w0 (w.setCell ⟨g, 1, none⟩ (.string q))) := ⟨below_drop hb hB _ _⟩
    rw [HP.out]
    generalize nameB q = nb at C1
    clear e2 e3 e4 e5 h1 hr hb hE HP hg
    go_enter Tryz.func30, Tryz.ntmps30
    go_wp2_with fail
    refine (C1.out _).mono ?_
    rintro e w' ⟨rfl, hw⟩
    subst hw
    go_wp2_with fail
    go_ret
    exact ⟨rfl, HF.out, HB.out⟩
  · by_cases h2 : p = wSp
    · have HP : Bx (rdPc a p q = (⟨a.k, a.nm, q, a.b, a.A, a.B⟩, nameB q)) := ⟨by unfold rdPc; rw [if_neg h1, if_pos h2]⟩
      rw [decide_eq_false h1] at e1
      rw [decide_eq_true h2] at e2
      have c1 : w.cell? ⟨g, 2, none⟩ = some (.string a.sp) := by rw [cell_of_row w g 2 _ _ (0, 0) hr]; rfl
      have f1 : w.frozen? ⟨g, 2, none⟩ = false := frozen_of_row _ _ 2 _ _ hr
      have C1 : Hid (∀ W, Calls Tryz.prog 40 #[.string q] W fun e w' => e = .returned (.bool (nameB q)) ∧ W = w') := fun W => (name_any q W (by omega)).mono fun e w' h => ⟨h.1, h.2.symm⟩
      have HF : Bx ((w.setCell ⟨g, 2, none⟩ (.string q)).heap[g]? = some (.cells (askV ⟨a.k, a.nm, q, a.b, a.A, a.B⟩ ab n c) 24 (0, 0))) := ⟨heap_setCell_same w g 2 _ _ _ hr⟩
      have HB : Bx (Below B w0 (w.setCell ⟨g, 2, none⟩ (.string q))) := ⟨below_drop hb hB _ _⟩
      rw [HP.out]
      generalize nameB q = nb at C1
      clear e3 e4 e5 h1 h2 hr hb hE HP hg
      go_enter Tryz.func30, Tryz.ntmps30
      go_wp2_with fail
      refine (C1.out _).mono ?_
      rintro e w' ⟨rfl, hw⟩
      subst hw
      go_wp2_with fail
      go_ret
      exact ⟨rfl, HF.out, HB.out⟩
    · have HR : Bx (∀ W, Below w.heap.size w W → W.heap[g]? = some (.cells (askV a ab n c) 24 (0, 0)) ∧ Below B w0 W) := ⟨fun W h => ⟨(h.block g hg).trans hr, hb.trans (h.mono (by omega))⟩⟩
      have C1 : Bx (∀ W, W = w → Calls Tryz.prog 41 #[.string q] W fun e w' => e = .returned (.tuple #[.int .i64 ((rdB q).getD 0), .bool (rdB q).isSome]) ∧ Below w.heap.size w w') := ⟨fun W hW => by subst hW; exact (read_anyT q W (by omega) hE.t hE.e).mono fun e w' h => ⟨h.1, h.2⟩⟩
      by_cases h3 : p = wA
      · have HP : Bx (rdPc a p q = (⟨a.k, a.nm, a.sp, a.b, (rdB q).getD 0, a.B⟩, (rdB q).isSome)) := ⟨by unfold rdPc; rw [if_neg h1, if_neg h2, if_pos h3]⟩
        rw [decide_eq_false h1] at e1
        rw [decide_eq_false h2] at e2
        rw [decide_eq_true h3] at e3
        rw [HP.out]
        generalize (rdB q).getD 0 = rv at C1 ⊢
        generalize (rdB q).isSome = rs at C1 ⊢
        clear e4 e5 h1 h2 h3 hr hb hE HP hg
        go_enter Tryz.func30, Tryz.ntmps30
        go_wp2_with fail
        refine (C1.out _ rfl).mono ?_
        rintro e w1 ⟨rfl, hb1⟩
        obtain ⟨hr1, hB1⟩ := HR.out _ hb1
        have c1 : w1.cell? ⟨g, 4, none⟩ = some (.int .i64 a.A) := by rw [cell_of_row w1 g 4 _ _ (0, 0) hr1]; rfl
        have f1 : w1.frozen? ⟨g, 4, none⟩ = false := frozen_of_row _ _ 4 _ _ hr1
        have HF : Bx ((w1.setCell ⟨g, 4, none⟩ (.int .i64 rv)).heap[g]? = some (.cells (askV ⟨a.k, a.nm, a.sp, a.b, rv, a.B⟩ ab n c) 24 (0, 0))) := ⟨heap_setCell_same w1 g 4 _ _ _ hr1⟩
        have HB : Bx (Below B w0 (w1.setCell ⟨g, 4, none⟩ (.int .i64 rv))) := ⟨below_drop hB1 hB _ _⟩
        clear hr1 hB1 HR C1
        go_wp2_with fail
        go_ret
        exact ⟨rfl, HF.out, HB.out⟩
      · by_cases h4 : p = wB
        · have HP : Bx (rdPc a p q = (⟨a.k, a.nm, a.sp, a.b, a.A, (rdB q).getD 0⟩, (rdB q).isSome)) := ⟨by unfold rdPc; rw [if_neg h1, if_neg h2, if_neg h3, if_pos h4]⟩
          rw [decide_eq_false h1] at e1
          rw [decide_eq_false h2] at e2
          rw [decide_eq_false h3] at e3
          rw [decide_eq_true h4] at e4
          rw [HP.out]
          generalize (rdB q).getD 0 = rv at C1 ⊢
          generalize (rdB q).isSome = rs at C1 ⊢
          clear e5 h1 h2 h3 h4 hr hb hE HP hg
          go_enter Tryz.func30, Tryz.ntmps30
          go_wp2_with fail
          refine (C1.out _ rfl).mono ?_
          rintro e w1 ⟨rfl, hb1⟩
          obtain ⟨hr1, hB1⟩ := HR.out _ hb1
          have c1 : w1.cell? ⟨g, 5, none⟩ = some (.int .i64 a.B) := by rw [cell_of_row w1 g 5 _ _ (0, 0) hr1]; rfl
          have f1 : w1.frozen? ⟨g, 5, none⟩ = false := frozen_of_row _ _ 5 _ _ hr1
          have HF : Bx ((w1.setCell ⟨g, 5, none⟩ (.int .i64 rv)).heap[g]? = some (.cells (askV ⟨a.k, a.nm, a.sp, a.b, a.A, rv⟩ ab n c) 24 (0, 0))) := ⟨heap_setCell_same w1 g 5 _ _ _ hr1⟩
          have HB : Bx (Below B w0 (w1.setCell ⟨g, 5, none⟩ (.int .i64 rv))) := ⟨below_drop hB1 hB _ _⟩
          clear hr1 hB1 HR C1
          go_wp2_with fail
          go_ret
          exact ⟨rfl, HF.out, HB.out⟩
        · have HP : Bx (rdPc a p q = (a, decide (q = p))) := ⟨by unfold rdPc; rw [if_neg h1, if_neg h2, if_neg h3, if_neg h4]⟩
          rw [decide_eq_false h1] at e1
          rw [decide_eq_false h2] at e2
          rw [decide_eq_false h3] at e3
          rw [decide_eq_false h4] at e4
          rw [HP.out]
          generalize decide (q = p) = t at e5 ⊢
          have HF := Bx.mk hr
          have HB := Bx.mk hb
          clear h1 h2 h3 h4 hr hb hE HP hg HR C1
          go_enter Tryz.func30, Tryz.ntmps30
          go_wp2_with fail
          go_ret
          exact ⟨rfl, HF.out, HB.out⟩
/-- what stands in a form's place -/
def wrPc (a : As) (p : ByteArray) : ByteArray := if p = wNm then a.nm else if p = wSp then a.sp else if p = wA then decS a.A else if p = wB then decS a.B else p
set_option maxHeartbeats 800000 in
set_option maxRecDepth 100000 in
theorem writtenPiece_any (p : ByteArray) (a : As) (ab : Option Addr) (n c : Nat) (w : World) (hA : V64 a.A) (hB : V64 a.B) (hE : Tens w) :
    Calls Tryz.prog 37 #[.agg (askV a ab n c), .string p] w fun e w' => e = .returned (.string (wrPc a p)) ∧ Below w.heap.size w w' := by
  have e1 := nm_l p
  have e2 := sp_l p
  have e3 := a_l p
  have e4 := b_l p
  have HB : Bx (Below w.heap.size w (w.alloc (.cells (askV a ab n c) 24))) := ⟨(Below.refl _ _).alloc (Nat.le_refl _) _⟩
  have hr : (w.alloc (.cells (askV a ab n c) 24)).heap[w.heap.size]? = some (.cells (askV a ab n c) 24 (0, 0)) := heap_alloc_new w _
  have c1 : (w.alloc (.cells (askV a ab n c) 24)).cell? ⟨w.heap.size, 1, none⟩ = some (.string a.nm) := by rw [cell_of_row _ _ 1 _ _ (0, 0) hr]; rfl
  have c2 : (w.alloc (.cells (askV a ab n c) 24)).cell? ⟨w.heap.size, 2, none⟩ = some (.string a.sp) := by rw [cell_of_row _ _ 2 _ _ (0, 0) hr]; rfl
  have c4 : (w.alloc (.cells (askV a ab n c) 24)).cell? ⟨w.heap.size, 4, none⟩ = some (.int .i64 a.A) := by rw [cell_of_row _ _ 4 _ _ (0, 0) hr]; rfl
  have c5 : (w.alloc (.cells (askV a ab n c) 24)).cell? ⟨w.heap.size, 5, none⟩ = some (.int .i64 a.B) := by rw [cell_of_row _ _ 5 _ _ (0, 0) hr]; rfl
  have HD : Bx (∀ v, V64 v → Calls Tryz.prog 42 #[.int .i64 v] (w.alloc (.cells (askV a ab n c) 24)) fun e w' => e = .returned (.string (decS v)) ∧ Below w.heap.size w w') := ⟨fun v hv => (dec_any v hv.1 hv.2 _ (hE.below HB.out)).mono fun e w' h => ⟨h.1, bstep HB.out h.2⟩⟩
  unfold askV at HD HB c1 c2 c4 c5
  have HA := Bx.mk hA
  have HBB := Bx.mk hB
  clear hr hE hA hB
  by_cases h1 : p = wNm
  · have HP : Bx (wrPc a p = a.nm) := ⟨by unfold wrPc; rw [if_pos h1]⟩
    rw [decide_eq_true h1] at e1
    rw [HP.out]
    clear e2 e3 e4 h1 c2 c4 c5 HD
    go_enter Tryz.func37, Tryz.ntmps37
    go_wp2_with fail
    go_ret
    exact ⟨rfl, HB.out⟩
  · rw [decide_eq_false h1] at e1
    by_cases h2 : p = wSp
    · have HP : Bx (wrPc a p = a.sp) := ⟨by unfold wrPc; rw [if_neg h1, if_pos h2]⟩
      rw [decide_eq_true h2] at e2
      rw [HP.out]
      clear e3 e4 h1 h2 c1 c4 c5 HD
      go_enter Tryz.func37, Tryz.ntmps37
      go_wp2_with fail
      go_ret
      exact ⟨rfl, HB.out⟩
    · rw [decide_eq_false h2] at e2
      by_cases h3 : p = wA
      · have HP : Bx (wrPc a p = decS a.A) := ⟨by unfold wrPc; rw [if_neg h1, if_neg h2, if_pos h3]⟩
        rw [decide_eq_true h3] at e3
        rw [HP.out]
        clear e4 h1 h2 h3 c1 c2 c5
        go_enter Tryz.func37, Tryz.ntmps37
        go_wp2_with fail
        refine (HD.out _ HA.out).mono ?_
        rintro e w1 ⟨rfl, hb1⟩
        go_wp2_with fail
        go_ret
        exact ⟨rfl, hb1⟩
      · rw [decide_eq_false h3] at e3
        by_cases h4 : p = wB
        · have HP : Bx (wrPc a p = decS a.B) := ⟨by unfold wrPc; rw [if_neg h1, if_neg h2, if_neg h3, if_pos h4]⟩
          rw [decide_eq_true h4] at e4
          rw [HP.out]
          clear h1 h2 h3 h4 c1 c2 c4
          go_enter Tryz.func37, Tryz.ntmps37
          go_wp2_with fail
          refine (HD.out _ HBB.out).mono ?_
          rintro e w1 ⟨rfl, hb1⟩
          go_wp2_with fail
          go_ret
          exact ⟨rfl, hb1⟩
        · have HP : Bx (wrPc a p = p) := ⟨by unfold wrPc; rw [if_neg h1, if_neg h2, if_neg h3, if_neg h4]⟩
          rw [decide_eq_false h4] at e4
          rw [HP.out]
          clear h1 h2 h3 h4 c1 c2 c4 c5 HD
          go_enter Tryz.func37, Tryz.ntmps37
          go_wp2_with fail
          go_ret
          exact ⟨rfl, HB.out⟩
end Go.Proofs.YtpfijaojgeceeaaGreatDoor
namespace Go.Proofs.YtpfijaojgeceeaaGreatDoor
open Go.RowKit
set_option linter.unusedVariables false

set_option maxRecDepth 100000 in
theorem own_lowR {w : World} {B B' n k : Nat} {T : TypeId} {v : Value} {X : List Value} (h : w.ownsRow B T k v n X) (hb : B' ≤ B) : w.ownsRow B' T k v n X := by
  refine ⟨h.1, ?_⟩
  rcases h.2 with h2 | ⟨g, cap, cur, e, h1, r⟩
  · exact .inl h2
  · exact .inr ⟨g, cap, cur, e, Nat.le_trans hb h1, r⟩
set_option maxRecDepth 100000 in
theorem pts_at {i : Nat} {r : Rt} (h : rtL[i]? = some r) : r.f.size ≤ 20 ∧ (ptsR r).length ≤ 4 ∧ 2 ≤ (ptsR r).length ∧ V64 r.k := by
  have hall : (rtL.all fun r => decide (r.f.size ≤ 20) && (decide ((ptsR r).length ≤ 4) && (decide (2 ≤ (ptsR r).length) && (decide (-9223372036854775808 ≤ r.k) && decide (r.k ≤ 9223372036854775807))))) = true := by decide +kernel
  have h1 := List.all_eq_true.1 hall r (List.mem_of_getElem? h)
  simp only [Bool.and_eq_true, decide_eq_true_eq] at h1
  exact ⟨h1.1, h1.2.1, h1.2.2.1, h1.2.2.2⟩
set_option maxHeartbeats 800000 in
set_option maxRecDepth 100000 in
theorem parts_any (r : Rt) (w : World) (hs : r.f.size ≤ 20) :
    Calls Tryz.prog 29 #[rtV r] w fun e w' => ∃ v, e = .returned v ∧ w'.ownsRow w.heap.size 9 1 v (ptsR r).length (svT (ptsR r)) ∧ Below w.heap.size w w' := by
  have HB : Bx (Below w.heap.size w (w.alloc (.cells #[.int .i64 r.k, .string r.m, .string r.f, .bool r.h] 50))) := ⟨(Below.refl _ _).alloc (Nat.le_refl _) _⟩
  have hr := heap_alloc_new w (.cells #[.int .i64 r.k, .string r.m, .string r.f, .bool r.h] 50)
  have c2 : (w.alloc (.cells #[.int .i64 r.k, .string r.m, .string r.f, .bool r.h] 50)).cell? ⟨w.heap.size, 2, none⟩ = some (.string r.f) := by rw [cell_of_row _ _ 2 _ _ (0, 0) hr]; rfl
  have HC : Bx (∀ W, (W.cell? ⟨w.heap.size, 2, none⟩ = some (.string r.f) ∧ Below w.heap.size w W) → Calls Tryz.prog 18 #[.string r.f, .int .u8 47, .int .i64 4] W fun e w' => ∃ v o, e = .returned (.tuple #[v, .bool o]) ∧ (w'.ownsRow w.heap.size 9 1 v (ptsR r).length (svT (ptsR r)) ∧ Below w.heap.size w w') ∧ w'.cell? ⟨w.heap.size, 2, none⟩ = some (.string r.f)) := ⟨fun W hW => by
    refine (fields_any r.f 47 4 W (by omega)).mono ?_
    rintro e w' ⟨v, rfl, ho, hb⟩
    have hsz := hW.2.size
    refine ⟨v, _, rfl, ⟨own_lowR ho hsz, bstep hW.2 hb⟩, ?_⟩
    rw [hb.cell (block_lt_of_cell hW.1)]; exact hW.1⟩
  show Calls Tryz.prog 29 #[.agg #[.int .i64 r.k, .string r.m, .string r.f, .bool r.h]] w fun e w' => ∃ v, e = .returned v ∧ w'.ownsRow w.heap.size 9 1 v (ptsR r).length (svT (ptsR r)) ∧ Below w.heap.size w w'
  generalize (ptsR r).length = N at *
  generalize svT (ptsR r) = SV at *
  generalize r.f = f at *
  generalize r.k = rk at *
  generalize r.m = rm at *
  generalize r.h = rh at *
  clear hr
  generalize hw1 : w.alloc (.cells #[.int .i64 rk, .string rm, .string f, .bool rh] 50) = w1 at *
  go_enter Tryz.func29, Tryz.ntmps29
  go_upto_region 1 with fail
  have hS0 : w1.drew.cell? ⟨w.heap.size, 2, none⟩ = some (.string f) ∧ Below w.heap.size w w1.drew := ⟨c2, HB.out.drew⟩
  clear c2 hw1
  go_region_held3 (fun W => W.cell? ⟨w.heap.size, 2, none⟩ = some (.string f) ∧ Below w.heap.size w W) (first | (exact hS0) | (exact hb6) | (assumption)) (first
    | (go_at_call 18; refine (HC.out _ (by assumption)).mono ?_; rintro e6 w6 ⟨v6, o6, rfl, ho6, hc6⟩; have hb6 := And.intro hc6 ho6.2))
  go_wp2_with fail
  go_ret
  exact ⟨v6, rfl, ho6⟩
end Go.Proofs.YtpfijaojgeceeaaGreatDoor
