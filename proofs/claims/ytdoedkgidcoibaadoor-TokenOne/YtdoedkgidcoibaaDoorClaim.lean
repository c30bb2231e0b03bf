/- What a claim's text is, and what a time is, to the program. -/
import Derived.Test.YtdoedkgidcoibaaDoorTokMath
import Derived.Test.YtdoedkgidcoibaaDoorDecAny
namespace Go.Proofs.YtdoedkgidcoibaaDoor
open Go.RowKit
set_option linter.unusedVariables false

/-- whether a number is a time -/
def tmB (v : Int) : Bool := decide (0 ≤ v) && decide (v ≤ 1099511627776)
theorem tmB_iff (v : Int) : tmB v = true ↔ 0 ≤ v ∧ v ≤ 1099511627776 := by simp [tmB]
theorem isTime_any (v : Int) (w : World) : Calls Tryd.prog 24 #[.int .i64 v] w fun e w' => e = .returned (.bool (tmB v)) ∧ w' = w := by
  go_enter Tryd.func24, Tryd.ntmps24
  go_wp2
  all_goals (go_ret; refine ⟨ret_bool ?_, rfl⟩; simp [tmB]; omega)
/-- what stays while a claim's text is made -/
structure CT (N : Nat) (n : ByteArray) (v : Int) (w w' : World) : Prop where
  low : Below w.heap.size w w'
  tens : Tens w'
  at0 : w'.cell? ⟨N, 0, none⟩ = some (.string n)
  at1 : w'.cell? ⟨N, 1, none⟩ = some (.int .i64 v)
  lt : N < w'.heap.size
theorem CT.held {N : Nat} {n : ByteArray} {v : Int} {w w' : World} (h : CT N n v w w') : w'.cell? ⟨N, 0, none⟩ = some (.string n) ∧ w'.cell? ⟨N, 1, none⟩ = some (.int .i64 v) ∧ CT N n v w w' := ⟨h.at0, h.at1, h⟩
theorem ct_step {N : Nat} {n : ByteArray} {v : Int} {w w' w1 : World} {p q : Prop} (h : p ∧ q ∧ CT N n v w w') (hb : Below w'.heap.size w' w1) : w1.cell? ⟨N, 0, none⟩ = some (.string n) ∧ w1.cell? ⟨N, 1, none⟩ = some (.int .i64 v) ∧ CT N n v w w1 := by
  obtain ⟨_, _, h⟩ := h
  exact CT.held ⟨bstep h.low hb, h.tens.below hb, (hb.cell h.lt).trans h.at0, (hb.cell h.lt).trans h.at1, Nat.lt_of_lt_of_le h.lt hb.size⟩
theorem ct_tens {N : Nat} {n : ByteArray} {v : Int} {w w' : World} {p q : Prop} (h : p ∧ q ∧ CT N n v w w') : Tens w' := h.2.2.tens
set_option maxRecDepth 100000 in
theorem claimText_any (n : ByteArray) (v : Int) (w : World) (hn : n.size ≤ 300) (h0 : -9223372036854775808 ≤ v) (h1 : v ≤ 9223372036854775807) (ht : Tens w) :
    Calls Tryd.prog 25 #[.agg #[.string n, .int .i64 v]] w fun e w' => e = .returned (.string (claimB n v)) ∧ Below w.heap.size w w' := by
  have hz := decS_size h0 h1
  have HD : Hid (∀ w', Tens w' → Calls Tryd.prog 37 #[.int .i64 v] w' fun e w'' => e = .returned (.string (decS v)) ∧ Below w'.heap.size w' w'') := fun w' h => dec_any v h0 h1 w' h
  have HC : Hid (n ++ ⟨#[46]⟩ ++ decS v = claimB n v) := rfl
  generalize decS v = D at hz HD HC
  go_enter Tryd.func25, Tryd.ntmps25
  go_wp2_with fail
  have hl0 : CT w.heap.size n v w (w.alloc (.cells #[.string n, .int .i64 v] 35)).drew := by
    have hb : Below w.heap.size w (w.alloc (.cells #[.string n, .int .i64 v] 35)) := (Below.refl _ _).alloc (Nat.le_refl _) _
    have hr := heap_alloc_new w (.cells #[.string n, .int .i64 v] 35)
    refine ⟨hb.drew, (ht.below hb).drewN 1, ?_, ?_, by simp⟩
    · show (w.alloc _).cell? _ = _
      rw [cell_of_row _ _ 0 _ _ (0, 0) hr]; rfl
    · show (w.alloc _).cell? _ = _
      rw [cell_of_row _ _ 1 _ _ (0, 0) hr]; rfl
  have k1 : ¬ 9223372036854775807 < n.size + 1 := by omega
  have k2 : ¬ 9223372036854775807 ≤ n.size := by omega
  have k3 : ¬ 9223372036854775807 < n.size + 1 + D.size := by omega
  go_region_held3 (fun w' => w'.cell? ⟨w.heap.size, 0, none⟩ = some (.string n) ∧ w'.cell? ⟨w.heap.size, 1, none⟩ = some (.int .i64 v) ∧ CT w.heap.size n v w w') (first | (exact hl0.held) | (exact ct_step (by assumption) hb1)) (first | (go_at_call 37; refine (HD.out _ (ct_tens (by assumption))).mono ?_; rintro e1 w1 ⟨rfl, hb1⟩))
  rename_i hH
  have hlow := hH.2.2.low
  clear hH hl0 hb1
  go_wp2
  go_ret
  exact ⟨ret_str HC.out, hlow⟩
end Go.Proofs.YtdoedkgidcoibaaDoor
