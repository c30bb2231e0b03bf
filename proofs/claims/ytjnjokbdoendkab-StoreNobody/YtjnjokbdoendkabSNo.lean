/- What a store answers that no call made. -/
import Derived.Test.YtjnjokbdoendkabSLives
import Derived.Test.YtjnjokbdoendkabSFew
import Derived.Test.YtjnjokbdoendkabSCut
namespace Go.Proofs.Ytjnjokbdoendkab
open Go.RowKit
set_option linter.unusedVariables false

def NoS (w : World) (p : Option Addr) : Prop := p = none ∨ ∃ g, p = some ⟨g, 0, none⟩ ∧ w.cell? ⟨g, 0, none⟩ = some (.pointer none)
set_option maxRecDepth 100000 in
set_option maxHeartbeats 400000 in
theorem smade_no (p : Option Addr) (w : World) (h : NoS w p) :
    Calls Try.prog 24 #[.pointer p] w fun e w' => e = .returned (.bool false) ∧ w = w' := by
  rcases h with rfl | ⟨g, rfl, c0⟩
  · go_enter Try.func24, Try.ntmps24
    go_wp2
    go_ret
    exact ⟨rfl, rfl⟩
  · go_enter Try.func24, Try.ntmps24
    go_wp2
    go_ret
    exact ⟨rfl, rfl⟩
set_option maxRecDepth 100000 in
set_option maxHeartbeats 400000 in
theorem scommit_no (p : Option Addr) (v : Value) (w : World) (h : NoS w p) :
    Calls Try.prog 10 #[.pointer p, v] w fun e w' => e = .returned (.int .i64 1) ∧ w = w' := by
  have H : Bx (NoS w p) := ⟨h⟩
  clear h
  go_enter Try.func10, Try.ntmps10
  go_wp2_with fail
  refine (smade_no p _ H.out).mono ?_
  rintro e w' ⟨rfl, rfl⟩
  go_wp2
  go_ret
  exact ⟨rfl, rfl⟩
set_option maxRecDepth 100000 in
set_option maxHeartbeats 400000 in
theorem sused_no (p : Option Addr) (w : World) (h : NoS w p) :
    Calls Try.prog 18 #[.pointer p] w fun e w' => e = .returned (.int .i64 0) ∧ w = w' := by
  have H : Bx (NoS w p) := ⟨h⟩
  clear h
  go_enter Try.func18, Try.ntmps18
  go_wp2_with fail
  refine (smade_no p _ H.out).mono ?_
  rintro e w' ⟨rfl, rfl⟩
  go_wp2
  go_ret
  exact ⟨rfl, rfl⟩
set_option maxRecDepth 100000 in
set_option maxHeartbeats 400000 in
theorem sall_no (p : Option Addr) (w : World) (h : NoS w p) :
    Calls Try.prog 13 #[.pointer p] w fun e w' => e = .returned (.slice none 0 0) ∧ w = w' := by
  have H : Bx (NoS w p) := ⟨h⟩
  clear h
  go_enter Try.func13, Try.ntmps13
  go_wp2_with fail
  refine (smade_no p _ H.out).mono ?_
  rintro e w' ⟨rfl, rfl⟩
  go_wp2
  go_ret
  exact ⟨rfl, rfl⟩
set_option maxRecDepth 100000 in
set_option maxHeartbeats 400000 in
theorem sroom_no (p : Option Addr) (w : World) (h : NoS w p) :
    Calls Try.prog 19 #[.pointer p] w fun e w' => e = .returned (.int .i64 (-1)) ∧ w = w' := by
  have H : Bx (NoS w p) := ⟨h⟩
  clear h
  go_enter Try.func19, Try.ntmps19
  go_wp2_with fail
  refine (smade_no p _ H.out).mono ?_
  rintro e w' ⟨rfl, rfl⟩
  go_wp2
  go_ret
  exact ⟨rfl, rfl⟩
set_option maxRecDepth 100000 in
set_option maxHeartbeats 400000 in
theorem sget_no (p : Option Addr) (k : ByteArray) (w : World) (h : NoS w p) :
    Calls Try.prog 17 #[.pointer p, .string k] w fun e w' => e = .returned (.tuple #[.slice none 0 0, .bool false]) ∧ w = w' := by
  have H : Bx (NoS w p) := ⟨h⟩
  clear h
  go_enter Try.func17, Try.ntmps17
  go_wp2_with fail
  refine (smade_no p _ H.out).mono ?_
  rintro e w' ⟨rfl, rfl⟩
  go_wp2
  go_ret2
  exact ⟨rfl, rfl⟩
set_option maxRecDepth 100000 in
set_option maxHeartbeats 400000 in
theorem sscan_nil (k1 k2 : ByteArray) (x : Int) (w : World) :
    Calls Try.prog 12 #[.pointer none, .string k1, .string k2, .int .i64 x] w fun e w' => e = .returned (.slice none 0 0) ∧ Below w.heap.size w w' := by
  have hb : Bx (∀ o1 o2, Below w.heap.size w ((w.alloc o1).alloc o2)) := ⟨fun o1 o2 => ((Below.refl _ _).alloc (Nat.le_refl _) _).alloc (by simp) _⟩
  go_enter Try.func12, Try.ntmps12
  go_wp2_with fail
  refine (smade_no none _ (.inl rfl)).mono ?_
  rintro e w' ⟨rfl, rfl⟩
  go_wp2
  go_ret
  exact ⟨rfl, hb.out _ _⟩
end Go.Proofs.Ytjnjokbdoendkab
