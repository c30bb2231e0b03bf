/- What Print answers. -/
import Derived.Test.YtdameoejigpnhaaGreatDoorWPrint
namespace Go.Proofs.YtdameoejigpnhaaGreatDoor
open Go.RowKit
set_option linter.unusedVariables false

def prT (x : WX) : WX × Nat × Int := runQ wp0 ws0 (wrL x) 0
/-- whether a request is one -/
def prB (x : WX) : Bool := decide ((prT x).2.2 = 0) && (decide ((prT x).2.1 = (wrL x).length) && smW x (prT x).1)
set_option maxRecDepth 100000 in
theorem prB_iff (x : WX) : prB x = true ↔ prT x = (x, (wrL x).length, 0) := by
  unfold prB
  generalize prT x = T
  obtain ⟨T1, T2, T3⟩ := T
  simp only [Bool.and_eq_true, decide_eq_true_eq, smW_iff, Prod.mk.injEq]
  exact ⟨fun ⟨a, b, c⟩ => ⟨c.symm, b, a⟩, fun ⟨a, b, c⟩ => ⟨c, b, a.symm⟩⟩
def PrP (x : WX) (w : World) (e : Ending) (w' : World) : Prop := Below w.heap.size w w' ∧
  ((prB x = true ∧ ∃ b' c', e = .returned (.tuple #[.slice (some ⟨b', 0, none⟩) (wrL x).length c', .int .i64 0]) ∧ Bts w' (some ⟨b', 0, none⟩) (wrL x).length c' (wrL x)) ∨
   (prB x = false ∧ e = .returned (.tuple #[.slice none 0 0, .int .i64 4])))
set_option maxRecDepth 100000 in
set_option maxHeartbeats 2000000 in
theorem wprint_any (x : WX) (a : Option Addr) (n c : Nat) (w : World) (hb : Bts w a n c x.b) (hs : Sml x) (he : Env w.heap.size w) :
    Calls Tryz.prog 23 #[reqV x (.slice a n c)] w (PrP x w) := by
  have hB1 : Below w.heap.size w (w.alloc (.cells #[.string x.m, .string x.t, .string x.k, .slice a n c] 26)) := (Below.refl _ _).alloc (Nat.le_refl _) _
  have HB1 := Bx.mk hB1
  have HBT := Bx.mk (hb.below hB1)
  have HE := Bx.mk he
  have HS := Bx.mk hs
  have HROW : Bx ((w.alloc (.cells #[.string x.m, .string x.t, .string x.k, .slice a n c] 26)).heap[w.heap.size]? = some (.cells #[.string x.m, .string x.t, .string x.k, .slice a n c] 26 (0, 0))) := ⟨heap_alloc_new w _⟩
  have HSZ : Bx ((w.alloc (.cells #[.string x.m, .string x.t, .string x.k, .slice a n c] 26)).heap.size = w.heap.size + 1) := ⟨by simp⟩
  have C1 : Hid (Calls Tryz.prog 36 #[.agg #[.string x.m, .string x.t, .string x.k, .slice a n c]] (w.alloc (.cells #[.string x.m, .string x.t, .string x.k, .slice a n c] 26)) fun e w' => ∃ b' c', e = .returned (.slice (some ⟨b', 0, none⟩) (wrL x).length c') ∧ Bts w' (some ⟨b', 0, none⟩) (wrL x).length c' (wrL x) ∧ (w.alloc (.cells #[.string x.m, .string x.t, .string x.k, .slice a n c] 26)).heap.size ≤ b' ∧ Below (w.alloc (.cells #[.string x.m, .string x.t, .string x.k, .slice a n c] 26)).heap.size (w.alloc (.cells #[.string x.m, .string x.t, .string x.k, .slice a n c] 26)) w') := wwritten_any x a n c _ HBT.out hs (he.up hB1)
  unfold reqV
  generalize hw1 : w.alloc (.cells #[.string x.m, .string x.t, .string x.k, .slice a n c] 26) = W1 at *
  clear hB1 hb hs he
  go_enter Tryz.func23, Tryz.ntmps23
  go_wp2_with (refine wpList_load_row rfl 26 (.tmp 1) rfl w.heap.size rfl 26 #[.string x.m, .string x.t, .string x.k, .slice a n c] (0, 0) _ HROW.out Tryz.underlying26 rfl req_info ?_)
  refine C1.out.mono ?_
  rintro e w2 ⟨b2, c2, rfl, hbt2, hbb2, hb2⟩
  clear hw1 C1
  have HB2 := Bx.mk (bstep HB1.out hb2)
  have HBT2 := Bx.mk hbt2
  have HXB2 := Bx.mk (HBT.out.below hb2)
  have HROW2 : Bx (w2.heap[w.heap.size]? = some (.cells #[.string x.m, .string x.t, .string x.k, .slice a n c] 26 (0, 0))) := ⟨by rw [hb2.block _ (by have := HSZ.out; omega)]; exact HROW.out⟩
  clear hbt2 hbb2 hb2
  go_wp2_with fail
  refine (wwhole_any _ _ _ _ _ HBT2.out (HE.out.up HB2.out)).mono ?_
  rintro e w3 ⟨v3, rfl, hy3, ho3, hb3⟩
  obtain ⟨va, vc, rfl, hq3⟩ := wh_body hy3 ho3
  have HPT : Bx (prT x = runQ wp0 ws0 (wrL x) 0) := ⟨rfl⟩
  have HPB : Bx (prB x = (decide ((prT x).2.2 = 0) && (decide ((prT x).2.1 = (wrL x).length) && smW x (prT x).1))) := ⟨rfl⟩
  rw [HPT.out] at HPB
  generalize runQ wp0 ws0 (wrL x) 0 = T at *
  obtain ⟨T1, T2, T3⟩ := T
  have hb4 : Below w3.heap.size w3 (w3.alloc (.cells #[.string T1.m, .string T1.t, .string T1.k, .slice va T1.b.length vc] 26)) := (Below.refl _ _).alloc (Nat.le_refl _) _
  have HB4 := Bx.mk (bstep (bstep HB2.out hb3) hb4)
  have HBT4 := Bx.mk ((HBT2.out.below hb3).below hb4)
  have HXB4 := Bx.mk ((HXB2.out.below hb3).below hb4)
  have HQ4 := Bx.mk (hq3.below hb4)
  have hz2 := (Array.getElem?_eq_some_iff.1 HROW2.out).1
  have HRX : Bx ((w3.alloc (.cells #[.string T1.m, .string T1.t, .string T1.k, .slice va T1.b.length vc] 26)).heap[w.heap.size]? = some (.cells #[.string x.m, .string x.t, .string x.k, .slice a n c] 26 (0, 0))) := ⟨by rw [hb4.block _ (Nat.lt_of_lt_of_le hz2 hb3.size), hb3.block _ hz2]; exact HROW2.out⟩
  have HRY : Bx ((w3.alloc (.cells #[.string T1.m, .string T1.t, .string T1.k, .slice va T1.b.length vc] 26)).heap[w3.heap.size]? = some (.cells #[.string T1.m, .string T1.t, .string T1.k, .slice va T1.b.length vc] 26 (0, 0))) := ⟨heap_alloc_new w3 _⟩
  obtain ⟨W4, hW4⟩ : ∃ W4, w3.alloc (.cells #[.string T1.m, .string T1.t, .string T1.k, .slice va T1.b.length vc] 26) = W4 := ⟨_, rfl⟩
  rw [hW4] at HB4 HBT4 HXB4 HQ4 HRX HRY
  have HW4 := Bx.mk hW4
  have C2 : Hid (Calls Tryz.prog 37 #[.agg #[.string x.m, .string x.t, .string x.k, .slice a n c], .agg #[.string T1.m, .string T1.t, .string T1.k, .slice va T1.b.length vc]] W4 fun e w' => e = .returned (.bool (smW x T1)) ∧ Below W4.heap.size W4 w') := wsame_any x T1 a va n T1.b.length c vc W4 HXB4.out HQ4.out
  have x0 : W4.cell? ⟨w.heap.size, 0, none⟩ = some (.string x.m) := by rw [cell_of_row _ w.heap.size 0 _ _ (0, 0) HRX.out]; rfl
  have x1 : W4.cell? ⟨w.heap.size, 1, none⟩ = some (.string x.t) := by rw [cell_of_row _ w.heap.size 1 _ _ (0, 0) HRX.out]; rfl
  have x2 : W4.cell? ⟨w.heap.size, 2, none⟩ = some (.string x.k) := by rw [cell_of_row _ w.heap.size 2 _ _ (0, 0) HRX.out]; rfl
  have x3 : W4.cell? ⟨w.heap.size, 3, none⟩ = some (.slice a n c) := by rw [cell_of_row _ w.heap.size 3 _ _ (0, 0) HRX.out]; rfl
  have y0 : W4.cell? ⟨w3.heap.size, 0, none⟩ = some (.string T1.m) := by rw [cell_of_row _ w3.heap.size 0 _ _ (0, 0) HRY.out]; rfl
  have y1 : W4.cell? ⟨w3.heap.size, 1, none⟩ = some (.string T1.t) := by rw [cell_of_row _ w3.heap.size 1 _ _ (0, 0) HRY.out]; rfl
  have y2 : W4.cell? ⟨w3.heap.size, 2, none⟩ = some (.string T1.k) := by rw [cell_of_row _ w3.heap.size 2 _ _ (0, 0) HRY.out]; rfl
  have y3 : W4.cell? ⟨w3.heap.size, 3, none⟩ = some (.slice va T1.b.length vc) := by rw [cell_of_row _ w3.heap.size 3 _ _ (0, 0) HRY.out]; rfl
  simp only at HPB
  have HLX : Bx ((wrL x).length < 1000000) := ⟨by unfold wrL; rw [List.length_append, strL_length]; have := (wrB_size HS.out).1; have := HS.out.b; omega⟩
  obtain ⟨N, hN⟩ : ∃ N, (wrL x).length = N := ⟨_, rfl⟩
  rw [hN] at HPB HBT4 HLX ⊢
  have HNN := Bx.mk hN
  clear hW4 hb4 hb3 ho3 hq3 hy3 hz2 HBT2 HXB2 HROW HROW2 HBT hN HPT
  generalize hSM : smW x T1 = SM at *
  unfold reqV
  simp only
  go_upto_region 3 with (rw [HW4.out]; clear HW4)
  by_cases h3 : T3 = 0
  · have g3 : (T3 != 0) = false := by simpa using h3
    by_cases h2 : T2 = N
    · have g2 : ((T2 : Int) != (N : Int)) = false := by simp [h2]
      have HR : Bx (prB x = SM) := ⟨by rw [HPB.out, decide_eq_true h3, decide_eq_true h2]; rfl⟩
      clear h3 h2 HPB
      go_wp2_with fail
      refine C2.out.mono ?_
      rintro e w6 ⟨rfl, hb6⟩
      have HB6 := Bx.mk (bstep HB4.out hb6)
      have HBT6 := Bx.mk (HBT4.out.below hb6)
      clear hb6
      cases SM with
      | true =>
        go_wp2
        go_ret2
        exact ⟨HB6.out, .inl ⟨HR.out, b2, c2, by rw [HNN.out]; rfl, by rw [HNN.out]; exact HBT6.out⟩⟩
      | false =>
        go_wp2
        go_ret2
        exact ⟨HB6.out, .inr ⟨HR.out, rfl⟩⟩
    · have g2 : ((T2 : Int) != (N : Int)) = true := by simp; omega
      have HR : Bx (prB x = false) := ⟨by rw [HPB.out, decide_eq_false h2]; simp⟩
      clear h3 h2 HPB
      go_wp2
      go_ret2
      exact ⟨HB4.out, .inr ⟨HR.out, rfl⟩⟩
  · have g3 : (T3 != 0) = true := by simpa using h3
    have HR : Bx (prB x = false) := ⟨by rw [HPB.out, decide_eq_false h3]; rfl⟩
    clear h3 HPB
    go_wp2
    go_ret2
    exact ⟨HB4.out, .inr ⟨HR.out, rfl⟩⟩
end Go.Proofs.YtdameoejigpnhaaGreatDoor
