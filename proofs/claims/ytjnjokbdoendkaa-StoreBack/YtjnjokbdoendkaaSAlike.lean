/- Two lists of changes that are the same. -/
import Derived.Test.YtjnjokbdoendkaaSFew
namespace Go.Proofs.Ytjnjokbdoendkaa
open Go.RowKit
set_option linter.unusedVariables false

set_option maxRecDepth 100000 in
set_option maxHeartbeats 4000000 in
set_option maxRecDepth 100000 in
theorem alike_yes (B1 B2 : Nat → Prop) (a1 a2 : Option Addr) (n1 n2 c1 c2 : Nat) (L : List Chg) (w : World) (h1 : CT B1 w a1 n1 c1 L) (h2 : CT B2 w a2 n2 c2 L) :
    Calls Try.prog 13 #[.slice a1 n1 c1, .slice a2 n2 c2] w fun e w' => e = .returned (.bool true) ∧ Below w.heap.size w w' := by
  obtain rfl : n1 = n2 := by rw [← h1.len_eq, ← h2.len_eq]
  have H1 := Bx.mk h1
  have H2 := Bx.mk h2
  have HLEN : Bx (L.length = n1) := ⟨h1.len_eq⟩
  have hm1 := Nat.le_trans h1.le_cap h1.cap_le
  unfold maxLen at hm1
  clear h1 h2
  go_enter Try.func13, Try.ntmps13
  go_wp2_with fail
  go_loopw [5] (fun i wr => ∃ k : Nat, k ≤ n1 ∧ i = .int .i64 k ∧ Below w.heap.size w wr) (fun i _ => n1 - (intOf i).toNat)
  case atStart => exact ⟨0, Nat.zero_le _, rfl, Below.refl _ _⟩
  case round =>
    obtain ⟨k, hk, rfl, hbw⟩ := hrel
    by_cases hlt : k < n1
    · have hkI : (k : Int) < (n1 : Int) := by omega
      have hkL : k < L.length := by rw [HLEN.out]; exact hlt
      obtain ⟨b, off, ai, ni, ci, rfl, hbl, _, x0, x1, x2, hbt, _⟩ := (H1.out.below hbw).chg k hlt
      obtain ⟨b', off', ai', ni', ci', rfl, hbl', _, y0, y1, y2, hbt', _⟩ := (H2.out.below hbw).chg k hlt
      generalize hcc : L[k] = cc at x0 x1 hbt y0 y1 hbt'
      obtain ⟨kk, dd, vv⟩ := cc
      simp only at x0 x1 hbt y0 y1 hbt'
      have gk : (kk.toList == kk.toList) = true := str_eq rfl
      have HS : Bx (∀ W, (W.cell? ⟨b, off + k * 3, none⟩ = some (.string kk) ∧ W.cell? ⟨b, off + k * 3 + 1, none⟩ = some (.bool dd) ∧ W.cell? ⟨b, off + k * 3 + 2, none⟩ = some (.slice ai ni ci) ∧ W.cell? ⟨b', off' + k * 3, none⟩ = some (.string kk) ∧ W.cell? ⟨b', off' + k * 3 + 1, none⟩ = some (.bool dd) ∧ W.cell? ⟨b', off' + k * 3 + 2, none⟩ = some (.slice ai' ni' ci') ∧ Below wr.heap.size wr W) → Calls Try.prog 12 #[.slice ai ni ci, .slice ai' ni' ci'] W fun e w' => e = .returned (.bool true) ∧ (w'.cell? ⟨b, off + k * 3, none⟩ = some (.string kk) ∧ w'.cell? ⟨b, off + k * 3 + 1, none⟩ = some (.bool dd) ∧ w'.cell? ⟨b, off + k * 3 + 2, none⟩ = some (.slice ai ni ci) ∧ w'.cell? ⟨b', off' + k * 3, none⟩ = some (.string kk) ∧ w'.cell? ⟨b', off' + k * 3 + 1, none⟩ = some (.bool dd) ∧ w'.cell? ⟨b', off' + k * 3 + 2, none⟩ = some (.slice ai' ni' ci') ∧ Below wr.heap.size wr w')) := ⟨fun W ⟨z0, z1, z2, z3, z4, z5, hW⟩ => (same_yes ai ai' ni ni' ci ci' vv W (hbt.below hW) (hbt'.below hW)).mono fun e w' ⟨e1, q, e2⟩ => ⟨e1, by rw [e2]; exact ⟨z0, z1, z2, z3, z4, z5, below_drewN hW q⟩⟩⟩
      have hS0 : wr.drew.cell? ⟨b, off + k * 3, none⟩ = some (.string kk) ∧ wr.drew.cell? ⟨b, off + k * 3 + 1, none⟩ = some (.bool dd) ∧ wr.drew.cell? ⟨b, off + k * 3 + 2, none⟩ = some (.slice ai ni ci) ∧ wr.drew.cell? ⟨b', off' + k * 3, none⟩ = some (.string kk) ∧ wr.drew.cell? ⟨b', off' + k * 3 + 1, none⟩ = some (.bool dd) ∧ wr.drew.cell? ⟨b', off' + k * 3 + 2, none⟩ = some (.slice ai' ni' ci') ∧ Below wr.heap.size wr wr.drew := ⟨x0, x1, x2, y0, y1, y2, (Below.refl _ _).drew⟩
      clear hcc hbt hbt' x0 x1 x2 y0 y1 y2 hbl hbl'
      go_wp2_with fail
      go_region_held3 (fun W => W.cell? ⟨b, off + k * 3, none⟩ = some (.string kk) ∧ W.cell? ⟨b, off + k * 3 + 1, none⟩ = some (.bool dd) ∧ W.cell? ⟨b, off + k * 3 + 2, none⟩ = some (.slice ai ni ci) ∧ W.cell? ⟨b', off' + k * 3, none⟩ = some (.string kk) ∧ W.cell? ⟨b', off' + k * 3 + 1, none⟩ = some (.bool dd) ∧ W.cell? ⟨b', off' + k * 3 + 2, none⟩ = some (.slice ai' ni' ci') ∧ Below wr.heap.size wr W) (first | (exact hS0) | (exact hb6) | (assumption)) (first
        | (go_at_call 12; refine (HS.out _ (by assumption)).mono ?_; rintro e6 w6 ⟨rfl, hb6⟩))
      rename_i hHeld
      have hbw6 := bstep hbw hHeld.2.2.2.2.2.2
      clear hHeld hS0 HS hb6
      go_wp2_with fail
      go_roundw
      case rel => exact ⟨k + 1, by omega, by go_num, hbw6⟩
      case measure => simp [intOf]; omega
    · have hkI : ¬ (k : Int) < (n1 : Int) := by omega
      go_wp2_with fail
      go_ret
      exact ⟨rfl, hbw⟩
end Go.Proofs.Ytjnjokbdoendkaa
