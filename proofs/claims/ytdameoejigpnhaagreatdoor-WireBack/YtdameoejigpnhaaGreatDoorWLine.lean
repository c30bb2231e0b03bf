/- What lines say: authorization, the body's length, the body in chunks. -/
import Derived.Test.YtdameoejigpnhaaGreatDoorWMem
namespace Go.Proofs.YtdameoejigpnhaaGreatDoor
open Go.RowKit
set_option linter.unusedVariables false

set_option maxRecDepth 100000 in
theorem frN_ne (h : HD) : (frN h != 0) = (h.len || h.enc) := by
  unfold frN
  cases h.enc <;> cases h.len <;> rfl
def saidH (h : HD) (name value : List Int) (lines cnt : Nat) (line : List Int) (LV : Value) (cr : Bool) : HM := hmOf (sayV h name value).1 lines cnt line LV cr
set_option maxRecDepth 100000 in
set_option maxHeartbeats 1000000 in
theorem wpart_any (g : Nat) (own : Nat → Prop) (h : HD) (v : List Int) (lines cnt : Nat) (line : List Int) (LV : Value) (cr : Bool) (w : World) (hm : Hm w g own (hmOf h lines cnt line LV cr)) (hv : Byt v) :
    Calls Tryz.prog 70 #[.pointer (some ⟨g, 1, none⟩), .string (strOf v)] w fun e w' => e = .returned (.int .i64 (sayV h encN v).2) ∧ Hm w' g own (saidH h encN v lines cnt line LV cr) ∧ Kept own w w' := by
  have e1 : ((strOf v).toList == [99, 104, 117, 110, 107, 101, 100]) = decide (v = chkV) := lit_eq hv chkV (byt_dec (by decide)) _ rfl
  have c10 : w.cell? ⟨g, 10, none⟩ = some (.int .i64 (frN h)) := hm.c10
  have f10 := hm.fz 10
  have e2 := frN_ne h
  have HH := Bx.mk hm
  have HS : Bx (sayV h encN v = if h.len = true ∨ h.enc = true ∨ v ≠ chkV then (h, 4) else ({ h with enc := true }, 0)) := ⟨by unfold sayV; rw [if_neg (by decide), if_pos rfl]⟩
  clear hm
  by_cases h1 : v = chkV
  · rw [decide_eq_true h1] at e1
    cases h2 : (h.len || h.enc) with
    | true =>
      rw [h2] at e2
      have HE : Bx (sayV h encN v = (h, 4)) := ⟨by rw [HS.out, if_pos]; simp at h2; rcases h2 with h2 | h2 <;> simp [h2]⟩
      generalize frN h = F at c10 e2
      generalize strOf v = s at e1
      clear h1 h2 HS
      go_enter Tryz.func70, Tryz.ntmps70
      go_wp2
      go_ret
      refine ⟨by rw [HE.out]; rfl, ?_, Kept.refl _ _⟩
      unfold saidH; rw [HE.out]; exact HH.out
    | false =>
      rw [h2] at e2
      have HE : Bx (sayV h encN v = ({ h with enc := true }, 0)) := ⟨by
        rw [HS.out, if_neg]; simp at h2; simp [h2, h1]⟩
      have HF : Bx (Hm (w.setCell ⟨g, 10, none⟩ (.int .i64 2)) g own (saidH h encN v lines cnt line LV cr)) := ⟨by unfold saidH; rw [HE.out]; exact HH.out.sFr 2⟩
      generalize frN h = F at c10 e2
      generalize strOf v = s at e1
      clear h1 h2 HS
      go_enter Tryz.func70, Tryz.ntmps70
      go_wp2
      go_ret
      exact ⟨by rw [HE.out]; rfl, HF.out, HH.out.kset _ _⟩
  · rw [decide_eq_false h1] at e1
    have HE : Bx (sayV h encN v = (h, 4)) := ⟨by rw [HS.out, if_pos]; simp [h1]⟩
    generalize frN h = F at c10 e2
    generalize strOf v = s at e1
    clear h1 HS
    go_enter Tryz.func70, Tryz.ntmps70
    go_wp2
    go_ret
    refine ⟨by rw [HE.out]; rfl, ?_, Kept.refl _ _⟩
    unfold saidH; rw [HE.out]; exact HH.out
set_option maxRecDepth 100000 in
set_option maxHeartbeats 1000000 in
theorem wauth_any (g : Nat) (own : Nat → Prop) (h : HD) (v : List Int) (lines cnt : Nat) (line : List Int) (LV : Value) (cr : Bool) (w : World) (hm : Hm w g own (hmOf h lines cnt line LV cr)) (hv : Byt v) :
    Calls Tryz.prog 68 #[.pointer (some ⟨g, 1, none⟩), .string (strOf v)] w fun e w' => e = .returned (.int .i64 (sayV h authN v).2) ∧ Hm w' g own (saidH h authN v lines cnt line LV cr) ∧ Kept own w w' := by
  have C0 : Hid (∀ wr, Calls Tryz.prog 87 #[.string (strOf v), .string ⟨#[66, 101, 97, 114, 101, 114, 32]⟩] wr fun e w' => e = .returned (.tuple #[.string (if v.take 7 = bearV then strOf (v.drop 7) else strOf v), .bool (decide (v.take 7 = bearV))]) ∧ w' = wr) := fun wr => cutpre_any v bearV wr hv (byt_dec (by decide))
  have c9 : w.cell? ⟨g, 9, none⟩ = some (.bool h.auth) := hm.c9
  have f9 := hm.fz 9
  have f6 := hm.fz 6
  have c6 : w.cell? ⟨g, 6, none⟩ = some (.string h.k) := hm.c6
  have HH := Bx.mk hm
  have HS : Bx (sayV h authN v = if h.auth = true ∨ v.take 7 ≠ bearV then (h, 4) else ({ h with auth := true, k := strOf (v.drop 7) }, 0)) := ⟨by unfold sayV; rw [if_pos rfl]⟩
  clear hm
  by_cases h1 : v.take 7 = bearV
  · rw [decide_eq_true h1, if_pos h1] at C0
    cases h2 : h.auth with
    | true =>
      rw [h2] at c9
      have HE : Bx (sayV h authN v = (h, 4)) := ⟨by rw [HS.out, if_pos (.inl h2)]⟩
      generalize strOf v = s at C0
      generalize strOf (v.drop 7) = r at C0
      clear h1 h2 HS
      go_enter Tryz.func68, Tryz.ntmps68
      go_wp2_with fail
      refine (C0.out _).mono ?_
      rintro e w' ⟨rfl, rfl⟩
      go_wp2
      go_ret
      refine ⟨by rw [HE.out]; rfl, ?_, Kept.refl _ _⟩
      unfold saidH; rw [HE.out]; exact HH.out
    | false =>
      rw [h2] at c9
      have HE : Bx (sayV h authN v = ({ h with auth := true, k := strOf (v.drop 7) }, 0)) := ⟨by rw [HS.out, if_neg]; simp [h1, h2]⟩
      have HF : Bx (Hm ((w.setCell ⟨g, 9, none⟩ (.bool true)).setCell ⟨g, 6, none⟩ (.string (strOf (v.drop 7)))) g own (saidH h authN v lines cnt line LV cr) ∧ Kept own w ((w.setCell ⟨g, 9, none⟩ (.bool true)).setCell ⟨g, 6, none⟩ (.string (strOf (v.drop 7))))) := ⟨by unfold saidH; rw [HE.out]; exact ⟨(HH.out.sAu true).sK _, (HH.out.sAu true).kset' (HH.out.kset _ _) _ _⟩⟩
      have f6b := (HH.out.sAu true).fz 6
      have c6b := (HH.out.sAu true).c6
      generalize strOf v = s at C0
      generalize strOf (v.drop 7) = r at C0 HF
      clear h1 h2 HS
      go_enter Tryz.func68, Tryz.ntmps68
      go_wp2_with fail
      refine (C0.out _).mono ?_
      rintro e w' ⟨rfl, rfl⟩
      go_wp2
      go_ret
      exact ⟨by rw [HE.out]; rfl, HF.out⟩
  · rw [decide_eq_false h1, if_neg h1] at C0
    have HE : Bx (sayV h authN v = (h, 4)) := ⟨by rw [HS.out, if_pos (.inr h1)]⟩
    generalize strOf v = s at C0
    clear h1 HS
    go_enter Tryz.func68, Tryz.ntmps68
    go_wp2_with fail
    refine (C0.out _).mono ?_
    rintro e w' ⟨rfl, rfl⟩
    go_wp2
    go_ret
    refine ⟨by rw [HE.out]; rfl, ?_, Kept.refl _ _⟩
    unfold saidH; rw [HE.out]; exact HH.out
end Go.Proofs.YtdameoejigpnhaaGreatDoor
