/- Readers that no call made. -/
import Derived.Test.YtdameoejigpnhabGreatDoorWrk
namespace Go.Proofs.YtdameoejigpnhabGreatDoor
open Go.RowKit
set_option linter.unusedVariables false

/-- a pointer that no call made: nil, or to a reader of noughts -/
def NoR (w : World) (p : Option Addr) : Prop := p = none ∨ ∃ g, p = some ⟨g, 0, none⟩ ∧ g < w.heap.size ∧ w.cell? ⟨g, 0, none⟩ = some (.int .i64 0)
set_option maxRecDepth 100000 in
theorem NoR.below {w w' : World} {p : Option Addr} (h : NoR w p) (hb : Below w.heap.size w w') : NoR w' p := by
  rcases h with h | ⟨g, h1, h2, h3⟩
  · exact .inl h
  · exact .inr ⟨g, h1, Nat.lt_of_lt_of_le h2 hb.size, (hb.cell (p := ⟨g, 0, none⟩) h2).trans h3⟩
set_option maxRecDepth 100000 in
theorem wmade_nor (p : Option Addr) (w : World) (h : NoR w p) : Calls Tryz.prog 30 #[.pointer p] w fun e w' => e = .returned (.bool false) ∧ w = w' := by
  rcases h with rfl | ⟨g, rfl, _, hc⟩
  · exact (wmade_nil w).mono fun e w' h => ⟨h.1, h.2.symm⟩
  · exact (wmade_no w hc).mono fun e w' h => ⟨h.1, h.2.symm⟩
set_option maxHeartbeats 400000 in
theorem wput_nor (p : Option Addr) (b : Int) (w : World) (h : NoR w p) : Calls Tryz.prog 18 #[.pointer p, .int .u8 b] w fun e w' => e = .returned (.tuple #[.bool false, .int .i64 1]) ∧ w = w' := by
  have C1 : Hid (Calls Tryz.prog 30 #[.pointer p] w fun e w' => e = .returned (.bool false) ∧ w = w') := wmade_nor p w h
  clear h
  go_enter Tryz.func18, Tryz.ntmps18
  go_wp2_with fail
  refine C1.out.mono ?_
  rintro e w1 ⟨rfl, rfl⟩
  go_wp2
  go_ret2
  exact ⟨rfl, rfl⟩
set_option maxHeartbeats 400000 in
theorem widle_nor (p : Option Addr) (w : World) (h : NoR w p) : Calls Tryz.prog 20 #[.pointer p] w fun e w' => e = .returned (.bool true) ∧ w = w' := by
  have C1 : Hid (Calls Tryz.prog 30 #[.pointer p] w fun e w' => e = .returned (.bool false) ∧ w = w') := wmade_nor p w h
  clear h
  go_enter Tryz.func20, Tryz.ntmps20
  go_wp2_with fail
  refine C1.out.mono ?_
  rintro e w1 ⟨rfl, rfl⟩
  go_wp2
  go_ret
  exact ⟨rfl, rfl⟩
set_option maxRecDepth 100000 in
set_option maxHeartbeats 1000000 in
theorem wtake_nor (p : Option Addr) (w : World) (h : NoR w p) :
    Calls Tryz.prog 19 #[.pointer p] w fun e w' => e = .returned (.tuple #[.agg reqZ, .bool false]) ∧ Below w.heap.size w w' := by
  have hb0 : Below w.heap.size w (w.alloc (.cells reqZ 44)) := (Below.refl _ _).alloc (Nat.le_refl _) _
  have C1 : Hid (Calls Tryz.prog 30 #[.pointer p] (w.alloc (.cells reqZ 44)) fun e w' => e = .returned (.bool false) ∧ (w.alloc (.cells reqZ 44)) = w') := wmade_nor p _ (h.below hb0)
  have HROW : Bx ((w.alloc (.cells reqZ 44)).heap[w.heap.size]? = some (.cells reqZ 44 (0, 0))) := ⟨heap_alloc_new w _⟩
  have HTH : Bx ((w.alloc (.cells reqZ 44)).there w.heap.size 0 4) := ⟨there_row HROW.out⟩
  have HST : Bx (((w.alloc (.cells reqZ 44)).setCells w.heap.size 0 reqZ.toList).heap[w.heap.size]? = some (.cells reqZ 44 (0, 0))) := ⟨heap_stored HROW.out rfl⟩
  have HBS : Bx (Below w.heap.size w ((w.alloc (.cells reqZ 44)).setCells w.heap.size 0 reqZ.toList)) := ⟨below_setCells hb0 _ (Nat.le_refl _) _ 0⟩
  clear hb0 h
  generalize hw1 : w.alloc (.cells reqZ 44) = W1 at *
  unfold reqZ at hw1
  go_enter Tryz.func19, Tryz.ntmps19
  go_wp2_with fail
  refine C1.out.mono ?_
  rintro e w1 ⟨rfl, rfl⟩
  clear hw1
  go_wp2_with (refine wpList_store_mid rfl 44 (.tmp 2) (.tmp 15) rfl w.heap.size 0 reqZ rfl rfl HTH.out req_info (by simp [Value.oneCell', reqZ]) ?_)
  exact bodyPost_ret (v := .tuple #[.agg reqZ, .bool false]) (results_rt rfl _ _ w.heap.size reqZ _ rfl rfl HST.out req_info) rfl ⟨rfl, HBS.out⟩
def row0 : Array Value := #[.int .i64 0, .int .i64 0, .slice none 0 0, .bool false, .string ⟨#[]⟩, .string ⟨#[]⟩, .string ⟨#[]⟩, .slice none 0 0, .int .i64 0, .bool false, .int .i64 0, .int .i64 0, .int .i64 0, .slice none 0 0, .pointer none]
set_option maxRecDepth 100000 in
theorem nor_new (w : World) : NoR (w.alloc (.cells row0 52)) (some ⟨w.heap.size, 0, none⟩) := .inr ⟨w.heap.size, rfl, by simp, by rw [cell_of_row _ w.heap.size 0 _ _ (0, 0) (heap_alloc_new w _)]; rfl⟩
end Go.Proofs.YtdameoejigpnhabGreatDoor
