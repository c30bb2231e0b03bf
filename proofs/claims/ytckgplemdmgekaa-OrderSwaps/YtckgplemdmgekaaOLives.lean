/- The law's lives. -/
import Derived.Test.YtckgplemdmgekaaOCheck
namespace Go.Proofs.Ytckgplemdmgekaa
open Go.RowKit
set_option linter.unusedVariables false

def getL : List Ic := [⟨6, 0⟩, ⟨17, 4⟩, ⟨6, 0⟩, ⟨5, 0⟩, ⟨4, 0⟩, ⟨18, 0⟩]
def lvO : Opr := ⟨0, 0, 0, true, 3, 0, 1⟩
set_option maxRecDepth 100000 in
theorem lives17_ord : ordE getL 9 [lvO] [0] = 19 := by decide
set_option maxRecDepth 100000 in
theorem getL_k : IcsK getL := fun x hx => by
  have h : ∀ x ∈ getL, V64 x.n := by unfold V64; decide
  exact h x hx
set_option maxRecDepth 100000 in
theorem lvO_k : OrsK [lvO] := fun x hx => by
  rcases List.mem_cons.1 hx with e | hx
  · rw [e]; exact ⟨by unfold V64; decide, by unfold V64; decide, by unfold V64; decide, by unfold V64; decide, by unfold V64; decide, by unfold V64; decide⟩
  cases hx
set_option maxRecDepth 100000 in
theorem six_ins (w : World) : Ics (w.alloc (.cells #[.int .i64 6, .int .i64 0, .int .i64 17, .int .i64 4, .int .i64 6, .int .i64 0, .int .i64 5, .int .i64 0, .int .i64 4, .int .i64 0, .int .i64 18, .int .i64 0] 55)) (some ⟨w.heap.size, 0, none⟩) 6 6 getL := by
  have hown : (w.alloc (.cells #[.int .i64 6, .int .i64 0, .int .i64 17, .int .i64 4, .int .i64 6, .int .i64 0, .int .i64 5, .int .i64 0, .int .i64 4, .int .i64 0, .int .i64 18, .int .i64 0] 55)).ownsRow w.heap.size 55 2 (.slice (some ⟨w.heap.size, 0, none⟩) 6 6) 6 (getL.flatMap icC) := World.ownsRow_lit w #[.int .i64 6, .int .i64 0, .int .i64 17, .int .i64 4, .int .i64 6, .int .i64 0, .int .i64 5, .int .i64 0, .int .i64 4, .int .i64 0, .int .i64 18, .int .i64 0] 6 (Nat.le_refl _) (by unfold maxLen; omega) rfl
  obtain ⟨ao, cap, e, hE⟩ := Ls.of_owns icC_len hown rfl
  cases e
  exact hE
set_option maxRecDepth 100000 in
theorem lv_or (w : World) : Ors (w.alloc (.cells #[.int .i64 0, .int .i64 0, .int .i64 0, .bool true, .int .i64 3, .int .i64 0, .int .i64 1] 38)) (some ⟨w.heap.size, 0, none⟩) 1 1 [lvO] := by
  have hown : (w.alloc (.cells #[.int .i64 0, .int .i64 0, .int .i64 0, .bool true, .int .i64 3, .int .i64 0, .int .i64 1] 38)).ownsRow w.heap.size 38 7 (.slice (some ⟨w.heap.size, 0, none⟩) 1 1) 1 ([lvO].flatMap orC) := World.ownsRow_lit w #[.int .i64 0, .int .i64 0, .int .i64 0, .bool true, .int .i64 3, .int .i64 0, .int .i64 1] 1 (Nat.le_refl _) (by unfold maxLen; omega) rfl
  obtain ⟨ao, cap, e, hE⟩ := Ls.of_owns orC_len hown rfl
  cases e
  exact hE
set_option maxRecDepth 100000 in
theorem lv_iv (w : World) : Ivs (w.alloc (.cells #[.int .i64 0] 3)) (some ⟨w.heap.size, 0, none⟩) 1 1 [0] := by
  have hown : (w.alloc (.cells #[.int .i64 0] 3)).ownsRow w.heap.size 3 1 (.slice (some ⟨w.heap.size, 0, none⟩) 1 1) 1 ([(0 : Int)].flatMap ivC) := World.ownsRow_lit w #[.int .i64 0] 1 (Nat.le_refl _) (by unfold maxLen; omega) rfl
  obtain ⟨ao, cap, e, hE⟩ := Ls.of_owns ivC_len hown rfl
  cases e
  exact hE
set_option maxHeartbeats 4000000 in
set_option maxRecDepth 100000 in
theorem get17_any (w : World) :
    Calls Try.prog 27 #[] w fun e w' => e = .returned (.slice (some ⟨w.heap.size, 0, none⟩) 6 6) ∧ Ics w' (some ⟨w.heap.size, 0, none⟩) 6 6 getL ∧ Below w.heap.size w w' := by
  have HE := Bx.mk (six_ins w)
  have HB : Bx (Below w.heap.size w (w.alloc (.cells #[.int .i64 6, .int .i64 0, .int .i64 17, .int .i64 4, .int .i64 6, .int .i64 0, .int .i64 5, .int .i64 0, .int .i64 4, .int .i64 0, .int .i64 18, .int .i64 0] 55))) := ⟨(Below.refl _ _).alloc (Nat.le_refl _) _⟩
  go_enter Try.func27, Try.ntmps27
  go_wp2_with fail
  go_ret
  exact ⟨rfl, HE.out, HB.out⟩
set_option maxRecDepth 100000 in
theorem lives_mem (w : World) : Ors ((w.alloc (.cells #[.int .i64 0, .int .i64 0, .int .i64 0, .bool true, .int .i64 3, .int .i64 0, .int .i64 1] 38)).alloc (.cells #[.int .i64 0] 3)) (some ⟨w.heap.size, 0, none⟩) 1 1 [lvO] ∧ Ivs ((w.alloc (.cells #[.int .i64 0, .int .i64 0, .int .i64 0, .bool true, .int .i64 3, .int .i64 0, .int .i64 1] 38)).alloc (.cells #[.int .i64 0] 3)) (some ⟨w.heap.size + 1, 0, none⟩) 1 1 [0] ∧ Below w.heap.size w ((w.alloc (.cells #[.int .i64 0, .int .i64 0, .int .i64 0, .bool true, .int .i64 3, .int .i64 0, .int .i64 1] 38)).alloc (.cells #[.int .i64 0] 3)) := by
  have hb1 : Below w.heap.size w (w.alloc (.cells #[.int .i64 0, .int .i64 0, .int .i64 0, .bool true, .int .i64 3, .int .i64 0, .int .i64 1] 38)) := (Below.refl _ _).alloc (Nat.le_refl _) _
  have hs1 : (w.alloc (.cells #[.int .i64 0, .int .i64 0, .int .i64 0, .bool true, .int .i64 3, .int .i64 0, .int .i64 1] 38)).heap.size = w.heap.size + 1 := by simp
  have ho := lv_or w
  generalize w.alloc (.cells #[.int .i64 0, .int .i64 0, .int .i64 0, .bool true, .int .i64 3, .int .i64 0, .int .i64 1] 38) = W at hb1 hs1 ho ⊢
  have hb2 : Below W.heap.size W (W.alloc (.cells #[.int .i64 0] 3)) := (Below.refl _ _).alloc (Nat.le_refl _) _
  have hi := lv_iv W
  rw [hs1] at hi
  exact ⟨ho.below hb2, hi, bstep hb1 hb2⟩
set_option maxHeartbeats 4000000 in
set_option maxRecDepth 100000 in
theorem lives17_any (w : World) :
    Calls Try.prog 15 #[] w fun e w' => e = .returned (.bool true) ∧ Below w.heap.size w w' := by
  go_enter Try.func15, Try.ntmps15
  go_wp2_with fail
  refine (get17_any w).mono ?_
  rintro e w1 ⟨rfl, hE, hb⟩
  obtain ⟨ho, hi, hb1⟩ := lives_mem w1
  have HE := Bx.mk (hE.below hb1)
  have HO := Bx.mk ho
  have HI := Bx.mk hi
  have HB := Bx.mk (bstep hb hb1)
  clear hE hb ho hi hb1
  go_wp2_with fail
  generalize (w1.alloc (.cells #[.int .i64 0, .int .i64 0, .int .i64 0, .bool true, .int .i64 3, .int .i64 0, .int .i64 1] 38)).alloc (.cells #[.int .i64 0] 3) = w2 at HE HO HI HB ⊢
  refine (check17_any _ _ _ 6 6 1 1 1 1 getL 9 [lvO] [0] w2 HE.out getL_k (by unfold V64; decide) HO.out lvO_k HI.out).mono ?_
  rintro e w3 ⟨rfl, hb3⟩
  rw [lives17_ord]
  have HB3 := Bx.mk (bstep HB.out hb3)
  clear hb3
  go_wp2_with fail
  go_ret
  exact ⟨rfl, HB3.out⟩
end Go.Proofs.Ytckgplemdmgekaa
