/- The law's lives, and its fuel. -/
import Derived.Test.YtpbdgacdbhabhaaVStep
import Derived.Test.YtpbdgacdbhabhaaCallIn
import Derived.Test.YtpbdgacdbhabhaaLeast
namespace Go.Proofs.Ytpbdgacdbhabhaa
open Go.RowKit
set_option linter.unusedVariables false

set_option maxRecDepth 100000 in
theorem lives16_thr : (thr [⟨6, 0⟩, ⟨18, 0⟩]).2.2 = 0 := by decide
set_option maxRecDepth 100000 in
theorem lives16_step : stpV [⟨6, 0⟩, ⟨18, 0⟩] [0, 0, 0, 0] 0 7 5 = (1, [0, 0, 0, 0], 7, 2) := by decide
set_option maxRecDepth 100000 in
theorem two_ins (w : World) : Ics (w.alloc (.cells #[.int .i64 6, .int .i64 0, .int .i64 18, .int .i64 0] 36)) (some ⟨w.heap.size, 0, none⟩) 2 2 [⟨6, 0⟩, ⟨18, 0⟩] := by
  have hown : (w.alloc (.cells #[.int .i64 6, .int .i64 0, .int .i64 18, .int .i64 0] 36)).ownsRow w.heap.size 36 2 (.slice (some ⟨w.heap.size, 0, none⟩) 2 2) 2 ([(⟨6, 0⟩ : Ic), ⟨18, 0⟩].flatMap icC) := World.ownsRow_lit w #[.int .i64 6, .int .i64 0, .int .i64 18, .int .i64 0] 2 (Nat.le_refl _) (by unfold maxLen; omega) rfl
  obtain ⟨ao, cap, e, hE⟩ := Ls.of_owns icC_len hown rfl
  cases e
  exact hE
set_option maxRecDepth 100000 in
theorem lives16_k : IcsK [⟨6, 0⟩, ⟨18, 0⟩] := fun x hx => by
  rcases List.mem_cons.1 hx with e | hx
  · rw [e]; exact zero_in
  rcases List.mem_cons.1 hx with e | hx
  · rw [e]; exact zero_in
  cases hx
set_option maxRecDepth 100000 in
theorem st_ret (k a b c d r u : Int) (w : World) : (Instr.field 38 (.agg #[.int .i64 k, .int .i64 a, .int .i64 b, .int .i64 c, .int .i64 d, .int .i64 r, .int .i64 u]) 2).run Try.prog w = .ok (.int .i64 r) w := by kernel_rfl
set_option maxHeartbeats 1000000 in
theorem lives16_any (w : World) :
    Calls Try.prog 16 #[] w fun e w' => e = .returned (.bool true) ∧ Below w.heap.size w w' := by
  have HE := Bx.mk (two_ins w)
  have HB : Bx (Below w.heap.size w (w.alloc (.cells #[.int .i64 6, .int .i64 0, .int .i64 18, .int .i64 0] 36))) := ⟨(Below.refl _ _).alloc (Nat.le_refl _) _⟩
  go_enter Try.func16, Try.ntmps16
  go_wp2_with fail
  generalize hW : w.alloc (.cells #[.int .i64 6, .int .i64 0, .int .i64 18, .int .i64 0] 36) = w0 at HE HB ⊢
  clear hW
  refine (vnew_yes _ 2 2 _ _ HE.out lives16_thr).mono ?_
  rintro e w1 ⟨gm, gc, cc, rfl, hm, _, _, hb1⟩
  have HM := Bx.mk hm
  have HB1 := Bx.mk (bstep HB.out hb1)
  have hst := st_ret 1 0 0 0 0 7 2
  clear hm hb1 HB HE
  go_wp2_with fail
  refine (step_any gm gc cc _ 0 0 0 0 0 7 5 w1 HM.out lives16_k ⟨zero_in, zero_in, zero_in, zero_in⟩ zero_in ⟨by decide, by decide⟩ ⟨by decide, by decide⟩).mono ?_
  rintro e w2 ⟨rfl, hb2⟩
  rw [lives16_step]
  have HB2 := Bx.mk (bstep HB1.out hb2)
  rw [show stC (1, [0, 0, 0, 0], 7, 2) = .agg #[.int .i64 1, .int .i64 0, .int .i64 0, .int .i64 0, .int .i64 0, .int .i64 7, .int .i64 2] from rfl]
  clear hb2 HB1 HM
  go_wp2_with fail
  go_ret
  exact ⟨rfl, HB2.out⟩
/-- its fuel -/
def fuC (c : Cl) : Int := leastV c.f (-3) 3000
set_option maxRecDepth 100000 in
theorem fuC_in (c : Cl) : V64 (fuC c) := by have := least_bd c.f (-3) 3000 (by decide); unfold fuC V64; omega
set_option maxHeartbeats 1000000 in
theorem fuel_any (c : Cl) (w : World) :
    Calls Try.prog 14 #[.agg #[.int .i64 c.s0, .int .i64 c.s1, .int .i64 c.s2, .int .i64 c.s3, .int .i64 c.k, .int .i64 c.f, .int .i64 c.g]] w fun e w' => e = .returned (.int .i64 (fuC c)) ∧ Below w.heap.size w w' := by
  obtain ⟨s0, s1, s2, s3, k, f, g⟩ := c
  show Calls _ _ #[.agg #[.int .i64 s0, .int .i64 s1, .int .i64 s2, .int .i64 s3, .int .i64 k, .int .i64 f, .int .i64 g]] w (fun e w' => e = .returned (.int .i64 (leastV f (-3) 3000)) ∧ _)
  have HB : Bx (Below w.heap.size w (w.alloc (.cells #[.int .i64 s0, .int .i64 s1, .int .i64 s2, .int .i64 s3, .int .i64 k, .int .i64 f, .int .i64 g] 26))) := ⟨(Below.refl _ _).alloc (Nat.le_refl _) _⟩
  go_enter Try.func14, Try.ntmps14
  go_wp2_with fail
  refine (least_any f (-3) 3000 _).mono ?_
  rintro e w1 ⟨rfl, hw⟩
  subst hw
  obtain ⟨x, HX⟩ : ∃ x, Bx (leastV f (-3) 3000 = x) := ⟨_, ⟨rfl⟩⟩
  rw [HX.out]
  go_wp2_with fail
  go_ret
  exact ⟨by rw [HX.out]; rfl, HB.out⟩
end Go.Proofs.Ytpbdgacdbhabhaa
