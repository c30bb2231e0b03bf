/- A number is put on a run's stack, or taken off. -/
import Derived.Test.YtckgplemdmgekaaVRun
namespace Go.Proofs.Ytckgplemdmgekaa
open Go.RowKit
set_option linter.unusedVariables false

set_option maxHeartbeats 1000000 in
theorem vput_any (g : Nat) (v : VS) (k a r n : Int) (w : World) (h : Ru w g v k a r) (hs : v.s.length < 8) :
    Calls Try.prog 58 #[.pointer (some ⟨g, 0, none⟩), .int .i64 n] w fun e w' => e = .returned (.tuple #[]) ∧ Ru w' g ⟨v.c, v.s ++ [n], v.p⟩ k a r ∧ Kept (fun j => j = g) w w' := by
  obtain ⟨R, h1, h2⟩ := h
  obtain ⟨d, HD⟩ : ∃ d, Bx (v.s.length = d) := ⟨_, ⟨rfl⟩⟩
  have c16 := h1.cell 16 (by omega)
  rw [h2.d, HD.out] at c16
  rw [HD.out] at hs
  have c8 := h1.cell (8 + d) (by omega)
  have f8 := h1.froz (8 + d)
  have H1 := h1.set (8 + d) n
  have y16 := H1.cell 16 (by omega)
  rw [getD_set _ _ _ _ (by rw [h1.len]; omega), if_neg (by omega), h2.d, HD.out] at y16
  have g16 := H1.froz 16
  have HF := Bx.mk (H1.set 16 ((d : Int) + 1))
  have HV := h2.put h1.len n (by rw [HD.out]; exact hs)
  rw [HD.out] at HV
  have HV := Bx.mk HV
  have HK : Bx (Kept (fun j => j = g) w ((w.setCell ⟨g, 8 + d, none⟩ (.int .i64 n)).setCell ⟨g, 16, none⟩ (.int .i64 ((d : Int) + 1)))) := ⟨kept_own (kept_own (Kept.refl _ w) _ _) _ _⟩
  have hdI : (d : Int) < 8 := by omega
  generalize R.getD (8 + d) 0 = x8 at c8
  clear h1 h2 H1
  go_enter Try.func58, Try.ntmps58
  go_wp2_with fail
  go_region
  go_wp2_with fail
  go_end0
  exact ⟨rfl, ⟨_, HF.out.keep rfl, HV.out⟩, HK.out.drew⟩
set_option maxHeartbeats 1000000 in
theorem vtake_any (g : Nat) (v : VS) (k a r : Int) (w : World) (h : Ru w g v k a r) (hs : 1 ≤ v.s.length) :
    Calls Try.prog 46 #[.pointer (some ⟨g, 0, none⟩)] w fun e w' => e = .returned (.int .i64 (tpB v)) ∧ Ru w' g ⟨v.c, off v 1, v.p⟩ k a r ∧ Kept (fun j => j = g) w w' := by
  obtain ⟨R, h1, h2⟩ := h
  obtain ⟨d, HD⟩ : ∃ d, Bx (v.s.length = d + 1) := ⟨v.s.length - 1, ⟨by omega⟩⟩
  have hd8 : d < 8 := by have := h2.sl; rw [HD.out] at this; omega
  have c16 := h1.cell 16 (by omega)
  rw [h2.d, HD.out] at c16
  replace c16 : w.cell? ⟨g, 16, none⟩ = some (.int .i64 ((d : Int) + 1)) := c16
  have f16 := h1.froz 16
  have H1 := h1.set 16 (d : Int)
  have y8 := H1.cell (8 + d) (by omega)
  rw [getD_set _ _ _ _ (by rw [h1.len]; omega), if_neg (by omega)] at y8
  have ht := h2.top hs
  rw [HD.out, Nat.add_sub_cancel] at ht
  rw [ht] at y8
  have HV := h2.take h1.len hs
  rw [HD.out, show (((d + 1 : Nat) : Int) - 1) = (d : Int) from by omega] at HV
  have HV := Bx.mk HV
  have HF := Bx.mk H1
  have HK : Bx (Kept (fun j => j = g) w (w.setCell ⟨g, 16, none⟩ (.int .i64 (d : Int)))) := ⟨kept_own (Kept.refl _ w) _ _⟩
  have hdI : (d : Int) < 8 := by omega
  generalize tpB v = x at y8 ⊢
  clear h1 h2 H1 hs ht
  go_enter Try.func46, Try.ntmps46
  go_wp2_with fail
  go_region
  go_wp2_with fail
  go_ret
  exact ⟨rfl, ⟨_, HF.out.keep rfl, HV.out⟩, HK.out.drew⟩
/-- 1 or 0 -/
def tru (b : Bool) : Int := if b = true then 1 else 0
set_option maxRecDepth 100000 in
theorem vtruth_any (b : Bool) (w : World) :
    Calls Try.prog 59 #[.bool b] w fun e w' => e = .returned (.int .i64 (tru b)) ∧ w' = w := by
  cases b with
  | true =>
    go_enter Try.func59, Try.ntmps59
    go_wp2_with fail
    go_ret
    exact ⟨rfl, rfl⟩
  | false =>
    go_enter Try.func59, Try.ntmps59
    go_wp2_with fail
    go_ret
    exact ⟨rfl, rfl⟩
/-- what a refusal panics with -/
def rfV : List PanicEntry := [{ v := .iface 9 (.string ⟨#[114, 101, 102, 117, 115, 101, 100]⟩), recovered := false }]
set_option maxRecDepth 100000 in
theorem vdiv_yes (b : Int) (hb : b ≠ 0) (w : World) :
    Calls Try.prog 61 #[.int .i64 b] w fun e w' => e = .returned (.int .i64 b) ∧ w' = w := by
  have hq : (b == 0) = false := by simpa using hb
  clear hb
  go_enter Try.func61, Try.ntmps61
  go_wp2_with fail
  go_ret
  exact ⟨rfl, rfl⟩
set_option maxRecDepth 100000 in
theorem vdiv_no (w : World) :
    Calls Try.prog 61 #[.int .i64 0] w fun e w' => e = .panicked rfV ∧ w' = w := by
  go_enter Try.func61, Try.ntmps61
  go_wp2
  exact ⟨rfl, rfl, rfl⟩
end Go.Proofs.Ytckgplemdmgekaa
