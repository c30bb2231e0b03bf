/- The program's queue: New, what waits. -/
import Derived.Test.YtipakjenggeflaaGreatDoorQMem
import Derived.Test.YtipakjenggeflaaGreatDoorPkae
import Derived.Test.YtipakjenggeflaaGreatDoorPkaa
import Derived.Laws.IdiomStrings
import Derived.Lib.Strings
import Derived.BigQuiet
namespace Go.Proofs.YtipakjenggeflaaGreatDoor
open Go.RowKit
set_option linter.unusedVariables false

set_option maxHeartbeats 4000000 in
set_option maxRecDepth 100000 in
theorem new19_yes (most : Nat) (h1 : 1 ≤ most) (h2 : most ≤ 8) (w : World) :
    Calls Tryz.prog 40 #[.int .i64 most] w fun e w' => e = .returned (.tuple #[.pointer (some ⟨w.heap.size, 0, none⟩), .int .i64 0]) ∧ Qm w' w.heap.size most [] ∧ Below w.heap.size w w' := by
  have HQ : Bx (Qm (w.alloc (.cells #[.int .i64 most, .int .i64 0, .int .i64 0, .int .i64 0, .int .i64 0, .int .i64 0, .int .i64 0, .int .i64 0, .int .i64 0, .int .i64 0] 161)) w.heap.size most []) := ⟨⟨[(most : Int), 0, 0, 0, 0, 0, 0, 0, 0, 0], ⟨heap_alloc_new _ _, rfl⟩, rfl, (fun i hi => absurd hi (Nat.not_lt_zero _)), rfl, by decide⟩⟩
  have HB : Bx (Below w.heap.size w (w.alloc (.cells #[.int .i64 most, .int .i64 0, .int .i64 0, .int .i64 0, .int .i64 0, .int .i64 0, .int .i64 0, .int .i64 0, .int .i64 0, .int .i64 0] 161))) := ⟨(Below.refl _ _).alloc (Nat.le_refl _) _⟩
  have hg1 : ¬ (most : Int) < 1 := by omega
  have hg2 : ¬ (8 : Int) < (most : Int) := by omega
  go_enter Tryz.func40, Tryz.ntmps40
  go_wp2_with fail
  go_ret2
  exact ⟨rfl, HQ.out, HB.out⟩
end Go.Proofs.YtipakjenggeflaaGreatDoor
