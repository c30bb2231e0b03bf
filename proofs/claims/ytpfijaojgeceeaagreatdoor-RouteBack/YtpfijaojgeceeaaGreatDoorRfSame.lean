/- Whether two asks are the same: the document's. -/
import Derived.Test.YtpfijaojgeceeaaGreatDoorAuap
import Derived.Test.YtpfijaojgeceeaaGreatDoorAuak
import Derived.Test.YtpfijaojgeceeaaGreatDoorAuan
import Derived.Test.YtpfijaojgeceeaaGreatDoorAuaq
namespace Go.Proofs.YtpfijaojgeceeaaGreatDoor
open Go.RowKit
set_option linter.unusedVariables false

set_option maxRecDepth 100000 in
set_option maxHeartbeats 2000000 in
theorem rfsame_any (a b : As) (aa ba : Option Addr) (n m c d : Nat) (w : World) (ha : Bts w aa n c a.b) (hb : Bts w ba m d b.b) :
    Calls Tryz.prog 10 #[.agg (askV a aa n c), .agg (askV b ba m d)] w fun e w' => e = .returned (.bool (asE a b)) ∧ Below w.heap.size w w' := by
  have hB1 : Below w.heap.size w (w.alloc (.cells #[.int .i64 a.k, .string a.nm, .string a.sp, .slice aa n c, .int .i64 a.A, .int .i64 a.B] 24)) := (Below.refl _ _).alloc (Nat.le_refl _) _
  have hB2 : Below w.heap.size w ((w.alloc (.cells #[.int .i64 a.k, .string a.nm, .string a.sp, .slice aa n c, .int .i64 a.A, .int .i64 a.B] 24)).alloc (.cells #[.int .i64 b.k, .string b.nm, .string b.sp, .slice ba m d, .int .i64 b.A, .int .i64 b.B] 24)) := hB1.alloc (by simp) _
  have C1 : Hid (∀ W, Below w.heap.size w W → Calls Tryz.prog 17 #[.slice aa n c, .slice ba m d] W fun e w' => e = .returned (.bool (decide (a.b = b.b))) ∧ ∃ q, w' = W.drewN q) := fun W hW => same_any aa ba n m c d a.b b.b W (ha.below hW) (hb.below hW)
  have e0 : (a.k == b.k) = decide (a.k = b.k) := rfl
  have e1 := str_beq a.nm b.nm
  have e2 := str_beq a.sp b.sp
  have e4 : (a.A == b.A) = decide (a.A = b.A) := rfl
  have e5 : (a.B == b.B) = decide (a.B = b.B) := rfl
  have HS : Bx (asE a b = (decide (a.k = b.k) && (decide (a.nm = b.nm) && (decide (a.sp = b.sp) && (decide (a.A = b.A) && (decide (a.B = b.B) && decide (a.b = b.b))))))) := ⟨rfl⟩
  have HB2 := Bx.mk hB2
  unfold askV
  generalize asE a b = R at HS ⊢
  generalize decide (a.k = b.k) = b0 at *
  generalize decide (a.nm = b.nm) = b1 at *
  generalize decide (a.sp = b.sp) = b2 at *
  generalize decide (a.b = b.b) = b3 at *
  generalize decide (a.A = b.A) = b4 at *
  generalize decide (a.B = b.B) = b5 at *
  generalize a.k = ak at *
  generalize a.nm = an at *
  generalize a.sp = asp at *
  generalize a.A = aA at *
  generalize a.B = aB at *
  generalize b.k = bk at *
  generalize b.nm = bn at *
  generalize b.sp = bs at *
  generalize b.A = bA at *
  generalize b.B = bB at *
  clear ha hb hB1 hB2
  cases b0 with
  | false =>
    go_enter Tryz.func10, Tryz.ntmps10
    go_wp2
    go_ret
    exact ⟨by rw [HS.out]; rfl, HB2.out⟩
  | true =>
    cases b1 with
    | false =>
      go_enter Tryz.func10, Tryz.ntmps10
      go_wp2
      go_ret
      exact ⟨by rw [HS.out]; rfl, HB2.out⟩
    | true =>
      cases b2 with
      | false =>
        go_enter Tryz.func10, Tryz.ntmps10
        go_wp2
        go_ret
        exact ⟨by rw [HS.out]; rfl, HB2.out⟩
      | true =>
        cases b4 with
        | false =>
          go_enter Tryz.func10, Tryz.ntmps10
          go_wp2
          go_ret
          exact ⟨by rw [HS.out]; rfl, HB2.out⟩
        | true =>
          cases b5 with
          | false =>
            go_enter Tryz.func10, Tryz.ntmps10
            go_wp2
            go_ret
            exact ⟨by rw [HS.out]; rfl, HB2.out⟩
          | true =>
            go_enter Tryz.func10, Tryz.ntmps10
            go_wp2_with fail
            refine (C1.out _ HB2.out).mono ?_
            rintro e w' ⟨rfl, q, rfl⟩
            go_wp2
            go_ret
            exact ⟨by rw [HS.out]; rfl, below_drewN HB2.out q⟩
end Go.Proofs.YtpfijaojgeceeaaGreatDoor
