/- A copy of numbers. -/
import Derived.Test.YtedingegmiacmaaCMem
import Derived.Laws.IdiomStrings
import Derived.Lib.Strings
namespace Go.Proofs.Ytedingegmiacmaa
open Go.RowKit
set_option linter.unusedVariables false

set_option maxRecDepth 100000 in
theorem Try.infoNq : (Try.prog.info? 3).map (fun i => (i.zero, i.size, i.bytes)) = some (some (.int .i64 0), 1, 8) := by kernel_rfl
set_option maxRecDepth 100000 in
theorem nilNq (w : World) (a : Option Addr) (l c : Nat) : (binOp .eql 36 (.slice a l c) (.slice none 0 0)).run Try.prog w = .ok (.bool a.isNone) w := by
  simp only [binOp]
  simp [run_equal_slice_nil w _ _ a l c Try.underlying36]
set_option maxHeartbeats 4000000 in
set_option maxRecDepth 100000 in
theorem cloneN_some (ad : Addr) (len cap : Nat) (l : List Int) (w : World) (h : Ls ivC 1 w (some ad) len cap l) (hs : len ≤ 1000000) :
    Calls Try.prog 29 #[.slice (some ad) len cap] w fun e w' => ∃ v, e = .returned v ∧ w'.ownsRow w.heap.size 3 1 v len (l.flatMap ivC) ∧ Below w.heap.size w w' := by
  obtain ⟨i0, hi, hz0, hz1, hz2⟩ := info_parts Try.infoNq
  have hb0 : Below w.heap.size w (w.alloc (.cells #[] 3)) := (Below.refl _ _).alloc (Nat.le_refl _) _
  have HCE := Bx.mk ((h.below hb0).cells ivC_len rfl)
  have HO0 : Bx ((w.alloc (.cells #[] 3)).ownsRow w.heap.size 3 1 (.slice (some ⟨w.heap.size, 0, none⟩) 0 0) 0 []) := ⟨World.ownsRow_lit w #[] 0 (Nat.le_refl _) (by unfold maxLen; omega) rfl⟩
  have HFL : Bx ((l.flatMap ivC).length = len * 1) := ⟨by rw [flatE_len ivC_len, h.len_eq]⟩
  have HON := Bx.mk (flatE_one ivC_one l)
  have HSZ := Bx.mk hb0.size
  have HB0 := Bx.mk hb0
  have hnil := nilNq w (some ad) len cap
  generalize l.flatMap ivC = ne at HCE HFL HON
  clear h hb0
  go_enter Try.func29, Try.ntmps29
  go_wp2_with (at_builtin; refine wpList_append_own _ rfl _ _ 36 rfl w.heap.size 3 i0 (.int .i64 0) 1 8 Try.underlying36 hi hz0 hz1 hz2 rfl (by decide) _ 0 [] rfl HO0.out ad len cap ne rfl HFL.out HCE.out HON.out ?c3 ?c4 HSZ.out ?_)
  case c3 => unfold maxLen; omega
  case c4 => omega
  intro v1 w1 ho1 hg1 _
  have HO1 := Bx.mk ho1
  have HB1 : Bx (Below w.heap.size w w1) := ⟨HB0.out.grown hg1 HSZ.out (by intro k hk; cases hk; exact Nat.le_refl _)⟩
  clear ho1 hg1 hi hz0 hz1 hz2
  go_wp2_with fail
  go_ret
  exact ⟨_, rfl, HO1.out, HB1.out⟩
set_option maxHeartbeats 4000000 in
set_option maxRecDepth 100000 in
theorem cloneN_none (w : World) :
    Calls Try.prog 29 #[.slice none 0 0] w fun e w' => e = .returned (.slice none 0 0) ∧ w' = w := by
  have hnil := nilNq w none 0 0
  go_enter Try.func29, Try.ntmps29
  go_wp2_with fail
  go_ret
  exact ⟨rfl, rfl⟩
set_option maxRecDepth 100000 in
/-- a copy of it, new -/
theorem cloneN_any (a : Option Addr) (len cap : Nat) (l : List Int) (w : World) (h : Ls ivC 1 w a len cap l) (hs : len ≤ 1000000) :
    Calls Try.prog 29 #[.slice a len cap] w fun e w' => ∃ v, e = .returned v ∧ w'.ownsRow w.heap.size 3 1 v len (l.flatMap ivC) ∧ Below w.heap.size w w' := by
  cases a with
  | some ad => exact cloneN_some ad len cap l w h hs
  | none =>
    have h0 := h.nil rfl
    have h1 := h.le_cap
    obtain rfl : cap = 0 := h0
    obtain rfl : len = 0 := by omega
    obtain rfl : l = [] := List.eq_nil_of_length_eq_zero h.len_eq
    refine (cloneN_none w).mono ?_
    rintro e w1 ⟨rfl, rfl⟩
    exact ⟨_, rfl, World.ownsRow_nil _ _ _ _, Below.refl _ _⟩
end Go.Proofs.Ytedingegmiacmaa
