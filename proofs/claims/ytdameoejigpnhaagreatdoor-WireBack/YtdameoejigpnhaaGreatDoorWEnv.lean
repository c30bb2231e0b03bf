/- What the library answers here; letters, digits, names and targets. -/
import Derived.Test.YtdameoejigpnhaaGreatDoorWShelf
import Derived.Test.YtdameoejigpnhaaGreatDoorWireCode
import Derived.Test.YtdameoejigpnhaaGreatDoorKeep
import Derived.Test.YtdameoejigpnhaaGreatDoorReadAny
import Derived.Test.YtdameoejigpnhaaGreatDoorFields
import Derived.Shelf.RegionOpen
namespace Go.Proofs.YtdameoejigpnhaaGreatDoor
open Go.RowKit
set_option linter.unusedVariables false

/-- what the library's variables hold, whatever is written above a block -/
structure Env (B : Nat) (w : World) : Prop where
  all : ∀ w', Below B w w' → Tens w' ∧ Errs w' ∧ ∃ m : Int, w'.cell? ⟨0, 0, none⟩ = some (.int .i64 m)
set_option maxRecDepth 100000 in
theorem Env.tens {B : Nat} {w : World} (h : Env B w) : Tens w := (h.all w (Below.refl _ _)).1
set_option maxRecDepth 100000 in
theorem Env.errs {B : Nat} {w : World} (h : Env B w) : Errs w := (h.all w (Below.refl _ _)).2.1
set_option maxRecDepth 100000 in
theorem Env.mx {B : Nat} {w : World} (h : Env B w) : ∃ m : Int, w.cell? ⟨0, 0, none⟩ = some (.int .i64 m) := (h.all w (Below.refl _ _)).2.2
set_option maxRecDepth 100000 in
theorem Env.below {B : Nat} {w w' : World} (h : Env B w) (hb : Below B w w') : Env B w' := ⟨fun w2 h2 => h.all w2 (hb.trans h2)⟩
set_option maxRecDepth 100000 in
theorem Env.kept {B : Nat} {own : Nat → Prop} {w w' : World} (h : Env B w) (hk : Kept own w w') (hB : ∀ k, own k → B ≤ k) (hs : B ≤ w.heap.size) : Env B w' := h.below (hk.low hB hs)
set_option maxRecDepth 100000 in
theorem Env.new {w : World} (ht : Tens w) (he : Errs w) (hm : ∃ m : Int, w.cell? ⟨0, 0, none⟩ = some (.int .i64 m)) : Env w.heap.size w := ⟨fun w' hb => ⟨ht.below hb, he.below hb, by
  obtain ⟨m, hm⟩ := hm
  exact ⟨m, (hb.cell (p := ⟨0, 0, none⟩) (World.block_lt_of_cell? w _ hm)).trans hm⟩⟩⟩
set_option maxRecDepth 100000 in
theorem Env.low {B B' : Nat} {w : World} (h : Env B w) (hb : B ≤ B') : Env B' w := ⟨fun w' h' => h.all w' (h'.mono hb)⟩

set_option maxRecDepth 100000 in
theorem sextra : Builder.Extra Tryz.prog Tryz.lays159_ren where
  sizeBuilder := by kernel_rfl
  liesBuilder := by kernel_rfl
  t5 := Tryz.lays159.t5
  a5 := Tryz.lays159.a5
  z5 := Tryz.lays159.z5
  v5 := Tryz.lays159.v5
  infoByte := by kernel_rfl
  cellsByte := by kernel_rfl
  sizeByte := by kernel_rfl
  neB5 := by decide
set_option maxRecDepth 100000 in
theorem lower_any (l : List Int) (w : World) (hl : ∀ c ∈ l, 0 ≤ c ∧ c < 128) (hs : l.length ≤ 1000000) :
    Calls Tryz.prog 67 #[.string (strOf l)] w fun e w' => e = .returned (.string (strOf (l.map lowB))) ∧ Below w.heap.size w w' := by
  refine (Any.strings_ToLower_ascii Tryz.lays159 sextra (strOf l) w (by rw [strOf_size]; omega) ?_).mono ?_
  · intro j b hb
    rw [strOf_data, List.getElem?_map] at hb
    cases hj : l[j]? with
    | none => rw [hj] at hb; cases hb
    | some c =>
      rw [hj] at hb
      have := hl c (List.mem_of_getElem? hj)
      simp only [Option.map_some, Option.some.injEq] at hb
      subst hb
      unfold u8I
      rw [UInt8.toNat_ofNat']
      omega
  · rintro e w' ⟨rfl, hb⟩
    refine ⟨?_, hb⟩
    rw [strOf_data, lower_map l (fun c hc => by have := hl c hc; omega), strOf_u8]
set_option maxRecDepth 100000 in
theorem cut_any2 (l : List Int) (w : World) (B : Nat) (he : Env B w) (hs : l.length ≤ 1000000) :
    Calls Tryz.prog 65 #[.string (strOf l), .string ⟨#[58, 32]⟩] w fun e w' => e = .returned (.tuple #[.string ⟨(Lib.cut (l.map u8I) [58, 32]).1.toArray⟩, .string ⟨(Lib.cut (l.map u8I) [58, 32]).2.1.toArray⟩, .bool (Lib.cut (l.map u8I) [58, 32]).2.2]) ∧ ∃ n, w' = w.drewN n := by
  obtain ⟨m, hm⟩ := he.mx
  exact Any.strings_Cut Tryz.lays145 (strOf l) ⟨#[58, 32]⟩ m w (by rw [strOf_size]; omega) hm
set_option maxRecDepth 100000 in
theorem prefix_any (l p : List Int) (w : World) (hl : Byt l) (hp : Byt p) :
    Calls Tryz.prog 76 #[.string (strOf l), .string (strOf p)] w fun e w' => e = .returned (.bool (decide (l.take p.length = p))) ∧ w' = w := by
  refine (Any.strings_HasPrefix Tryz.lays99 (strOf l) (strOf p) w).mono ?_
  rintro e w' ⟨rfl, hw⟩
  refine ⟨?_, hw⟩
  rw [strOf_data, strOf_data, Lib.hasPrefix, pre_link p l hp hl]
set_option maxRecDepth 100000 in
theorem cutpre_any (l p : List Int) (w : World) (hl : Byt l) (hp : Byt p) :
    Calls Tryz.prog 87 #[.string (strOf l), .string (strOf p)] w fun e w' => e = .returned (.tuple #[.string (if l.take p.length = p then strOf (l.drop p.length) else strOf l), .bool (decide (l.take p.length = p))]) ∧ w' = w := by
  refine (Any.strings_CutPrefix Tryz.lays103 (strOf l) (strOf p) w).mono ?_
  rintro e w' ⟨rfl, hw⟩
  refine ⟨?_, hw⟩
  rw [strOf_data, strOf_data, Lib.trimPrefix, Lib.hasPrefix, pre_link p l hp hl]
  by_cases h : l.take p.length = p
  · rw [if_pos (by simpa using h), if_pos h, List.length_map, ← List.map_drop, strOf_u8]
  · rw [if_neg (by simpa using h), if_neg h, strOf_u8]
def smB (c : Int) : Bool := decide (97 ≤ c) && decide (c ≤ 122)
def lgB (c : Int) : Bool := decide (65 ≤ c) && decide (c ≤ 90)
set_option maxHeartbeats 400000 in
theorem wsmall_any (c : Int) (w : World) : Calls Tryz.prog 77 #[.int .u8 c] w fun e w' => e = .returned (.bool (smB c)) ∧ w' = w := by
  go_enter Tryz.func77, Tryz.ntmps77
  go_wp2
  all_goals (go_ret; refine ⟨ret_bool ?_, rfl⟩; simp [smB]; omega)
set_option maxHeartbeats 400000 in
theorem wlarge_any (c : Int) (w : World) : Calls Tryz.prog 80 #[.int .u8 c] w fun e w' => e = .returned (.bool (lgB c)) ∧ w' = w := by
  go_enter Tryz.func80, Tryz.ntmps80
  go_wp2
  all_goals (go_ret; refine ⟨ret_bool ?_, rfl⟩; simp [lgB]; omega)
set_option maxHeartbeats 400000 in
theorem wdigit_any (c : Int) (w : World) : Calls Tryz.prog 78 #[.int .u8 c] w fun e w' => e = .returned (.bool (dig c)) ∧ w' = w := by
  go_enter Tryz.func78, Tryz.ntmps78
  go_wp2
  all_goals (go_ret; refine ⟨ret_bool ?_, rfl⟩; simp [dig]; omega)
end Go.Proofs.YtdameoejigpnhaaGreatDoor
