/- From the row's list to what a number's digits at base 16 ask: the table of bits.TrailingZeros64 at one place. -/
import Derived.Test.YtjlclgmbenhakaaDoorTDoor
namespace Go.Proofs.YtjlclgmbenhakaaDoor
open Go.RowKit
set_option linter.unusedVariables false

/-- the place of the table that 16 asks for -/
structure Bru (w : World) : Prop where
  pos : 2 < w.heap.size
  cell : w.cell? ⟨2, 15, none⟩ = some (.int .u8 4)
set_option maxRecDepth 100000 in
theorem Bru.below {w w' : World} (h : Bru w) (hb : Below w.heap.size w w') : Bru w' := ⟨Nat.lt_of_lt_of_le h.pos hb.size, (hb.cell (p := ⟨2, 15, none⟩) h.pos).trans h.cell⟩
set_option maxRecDepth 100000 in
theorem Bru.drewN {w : World} (h : Bru w) (q : Nat) : Bru (w.drewN q) := ⟨h.pos, h.cell⟩
set_option maxRecDepth 100000 in
theorem gBru : Tryd.prog.globalNamed "math/bits.deBruijn64tab" = some 2 := by kernel_rfl
set_option maxRecDepth 100000 in
theorem gBruType : (Tryd.prog.globals[2]?).map (·.type) = some 77 := by kernel_rfl
set_option maxRecDepth 100000 in
theorem cellsBru : Tryd.prog.cellsOf 77 = 64 := by kernel_rfl
set_option maxRecDepth 100000 in
theorem cellsU8 : Tryd.prog.cellsOf 5 = 1 := by kernel_rfl
def bruL : List Int := [0, 1, 56, 2, 57, 49, 28, 3, 61, 58, 42, 50, 38, 29, 17, 4, 62, 47, 59, 36, 45, 43, 51, 22, 53, 39, 33, 30, 24, 18, 12, 5, 63, 55, 48, 27, 60, 41, 37, 16, 46, 35, 44, 21, 52, 32, 23, 11, 54, 26, 40, 15, 34, 20, 31, 10, 25, 14, 19, 9, 13, 8, 7, 6]
set_option maxRecDepth 100000 in
theorem bru_eq : (Rows.laid_math_bits_deBruijn64tab : DataW Unit) = Lib.tabData .u8 bruL := by kernel_rfl
set_option maxRecDepth 100000 in
theorem bru_at {W : World} {l : List (String × DataW Unit)} (h : laidMet Tryd.prog l W) (i : Nat) (hi : l[i]? = some ("math/bits.deBruijn64tab", Rows.laid_math_bits_deBruijn64tab)) : Bru W := by
  obtain ⟨r, h2⟩ := laid_at l i h hi
  rw [bru_eq] at h2
  have ht : Lib.TabIs Tryd.prog W "math/bits.deBruijn64tab" .u8 bruL := Lib.tabIs_of_head gBru gBruType Tryd.underlying77 Tryd.underlying5 cellsU8 cellsBru h2
  have h1 := World.var?_cell gBru ht 15
  have h3 : W.cell? ⟨2, 15, none⟩ = some (.int .u8 4) := h1
  exact ⟨World.block_lt_of_cell? W _ h3, h3⟩
set_option maxHeartbeats 400000 in
theorem tz64_16 (w : World) (h : Bru w) :
    Calls Tryd.prog 41 #[.int .u64 16] w fun e w' => e = .returned (.int .i64 4) ∧ w = w' := by
  have hc := h.cell
  have hw1 : IntKind.u64.wrap (-16) = 18446744073709551600 := by decide +kernel
  have hand : bits .and .u64 16 18446744073709551600 = 16 := by decide +kernel
  have hw2 : IntKind.u64.wrap 4573923408821661840 = 4573923408821661840 := by decide +kernel
  go_enter Tryd.func41, Tryd.ntmps41
  go_wp2
  go_ret
  exact ⟨rfl, rfl⟩
set_option maxHeartbeats 400000 in
theorem tz_16 (w : World) (h : Bru w) :
    Calls Tryd.prog 39 #[.int .u64 16] w fun e w' => e = .returned (.int .i64 4) ∧ w = w' := by
  have H := Bx.mk h
  clear h
  go_enter Tryd.func39, Tryd.ntmps39
  go_wp2_with fail
  refine (tz64_16 _ H.out).mono ?_
  rintro e w' ⟨rfl, rfl⟩
  go_wp2
  go_ret
  exact ⟨rfl, rfl⟩
set_option maxHeartbeats 400000 in
theorem pow2_16 (w : World) :
    Calls Tryd.prog 38 #[.int .i64 16] w fun e w' => e = .returned (.bool true) ∧ w = w' := by
  have hand : bits .and .i64 16 15 = 0 := by decide +kernel
  go_enter Tryd.func38, Tryd.ntmps38
  go_wp2
  go_ret
  exact ⟨rfl, rfl⟩
end Go.Proofs.YtjlclgmbenhakaaDoor
