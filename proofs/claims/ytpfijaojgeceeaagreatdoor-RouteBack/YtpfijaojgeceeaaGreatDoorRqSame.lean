/- Whether two requests are the same: the document's. -/
import Derived.Test.YtpfijaojgeceeaaGreatDoorReqV
import Derived.Test.YtpfijaojgeceeaaGreatDoorAuap
import Derived.Test.YtpfijaojgeceeaaGreatDoorAuan
import Derived.WalkKit
namespace Go.Proofs.YtpfijaojgeceeaaGreatDoor
open Go.RowKit
set_option linter.unusedVariables false

set_option maxRecDepth 100000 in
theorem strs_beq (s t : ByteArray) : (s.toList == t.toList) = decide (s = t) := by
  by_cases h : s = t
  · subst h; simp
  · rw [decide_eq_false h]
    refine beq_eq_false_iff_ne.2 (fun e => h ?_)
    rw [Lib.toList_data, Lib.toList_data] at e
    exact ba_ext e
set_option maxRecDepth 100000 in
set_option maxHeartbeats 1000000 in
theorem rsame_any (x y : WX) (a b : Option Addr) (n m c d : Nat) (w : World) (ha : Bts w a n c x.b) (hb : Bts w b m d y.b) :
    Calls Tryz.prog 7 #[reqV x (.slice a n c), reqV y (.slice b m d)] w fun e w' => e = .returned (.bool (smW x y)) ∧ Below w.heap.size w w' := by
  have hB1 : Below w.heap.size w (w.alloc (.cells #[.string x.m, .string x.t, .string x.k, .slice a n c] 28)) := (Below.refl _ _).alloc (Nat.le_refl _) _
  have hB2 : Below w.heap.size w ((w.alloc (.cells #[.string x.m, .string x.t, .string x.k, .slice a n c] 28)).alloc (.cells #[.string y.m, .string y.t, .string y.k, .slice b m d] 28)) := hB1.alloc (by simp) _
  have C1 : Hid (∀ W, Below w.heap.size w W → Calls Tryz.prog 17 #[.slice a n c, .slice b m d] W fun e w' => e = .returned (.bool (decide (x.b = y.b))) ∧ ∃ q, w' = W.drewN q) := fun W hW => same_any a b n m c d x.b y.b W (ha.below hW) (hb.below hW)
  have e1 := strs_beq x.m y.m
  have e2 := strs_beq x.t y.t
  have e3 := strs_beq x.k y.k
  have HS : Bx (smW x y = (decide (x.m = y.m) && (decide (x.t = y.t) && (decide (x.k = y.k) && decide (x.b = y.b))))) := ⟨rfl⟩
  have HB2 := Bx.mk hB2
  unfold reqV
  generalize smW x y = R at HS ⊢
  generalize decide (x.m = y.m) = b1 at *
  generalize decide (x.t = y.t) = b2 at *
  generalize decide (x.k = y.k) = b3 at *
  generalize decide (x.b = y.b) = b4 at *
  generalize x.m = xm at *
  generalize y.m = ym at *
  generalize x.t = xt at *
  generalize y.t = yt at *
  generalize x.k = xk at *
  generalize y.k = yk at *
  clear ha hb hB1 hB2
  cases b1 with
  | false =>
    go_enter Tryz.func7, Tryz.ntmps7
    go_wp2
    go_ret
    exact ⟨by rw [HS.out]; rfl, HB2.out⟩
  | true =>
    cases b2 with
    | false =>
      go_enter Tryz.func7, Tryz.ntmps7
      go_wp2
      go_ret
      exact ⟨by rw [HS.out]; rfl, HB2.out⟩
    | true =>
      cases b3 with
      | false =>
        go_enter Tryz.func7, Tryz.ntmps7
        go_wp2
        go_ret
        exact ⟨by rw [HS.out]; rfl, HB2.out⟩
      | true =>
        go_enter Tryz.func7, Tryz.ntmps7
        go_wp2_with fail
        refine (C1.out _ HB2.out).mono ?_
        rintro e w' ⟨rfl, q, rfl⟩
        go_wp2
        go_ret
        exact ⟨by rw [HS.out]; rfl, below_drewN HB2.out q⟩
end Go.Proofs.YtpfijaojgeceeaaGreatDoor
