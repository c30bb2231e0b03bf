/- A copy of bytes: bytes.Clone; a part of bytes, bytes of a constant. Entries in memory. No walk. -/
import Derived.Test.YtipakjenggeflaaGreatDoorPkad
import Derived.Test.YtipakjenggeflaaGreatDoorPkaa
import Derived.Test.YtipakjenggeflaaGreatDoorPkae
import Derived.Laws.Cover3
import Derived.Lib.SlBytesConst
namespace Go.Proofs.YtipakjenggeflaaGreatDoor
open Go.RowKit
set_option linter.unusedVariables false

set_option maxRecDepth 100000 in
/-- a part of bytes -/
theorem Bts.part {w : World} {b off len cap : Nat} {l : List Int} (h : Bts w (some ⟨b, off, Option.none⟩) len cap l) (o m cap' : Nat) (hom : o + m ≤ len) (hc : m ≤ cap') (hm : cap' ≤ maxLen) : Bts w (some ⟨b, off + o, Option.none⟩) m cap' ((l.drop o).take m) := by
  have hl := h.len_eq
  refine ⟨by rw [List.length_take, List.length_drop]; omega, fun c hc => h.byt c (List.mem_of_mem_drop (List.mem_of_mem_take hc)), hc, hm, (fun hh => by cases hh), fun hp => ?_⟩
  obtain ⟨b', off', e, hlt, hcell⟩ := h.spot (by omega)
  cases e
  refine ⟨b, off + o, rfl, hlt, fun i hi => ?_⟩
  rw [Nat.add_assoc, hcell (o + i) (by omega), getD_take_drop _ _ _ _ hi]
set_option maxRecDepth 100000 in
theorem owns_row {w : World} {base n : Nat} {l : List Int} {A : Array Value} (hA : A = (bv l).toArray) (hl : l.length = n) (hm : n ≤ maxLen) (hb : base ≤ w.heap.size) :
    (w.alloc (.cells A 5)).ownsRow base 5 1 (.slice (some ⟨w.heap.size, 0, none⟩) n n) n (bv l) := by
  have h := owns_fresh w base n n l #[] hl (by simp) hm hb
  rw [Array.append_empty] at h
  rw [hA]; exact h
set_option maxRecDepth 100000 in
theorem owns_empty (w : World) (base : Nat) (l : List Int) (h : l = []) : w.ownsRow base 5 1 (.slice none 0 0) l.length (bv l) := by
  rw [h]; exact World.ownsRow_nil _ _ _ _
set_option maxRecDepth 100000 in
theorem eql_nil (w : World) (a : Option Addr) (l c : Nat) : (binOp .eql 34 (.slice a l c) (.slice none 0 0)).run Tryz.prog w = .ok (.bool a.isNone) w := by
  simp only [binOp]
  simp [run_equal_slice_nil w _ _ a l c Tryz.underlying34]
set_option maxRecDepth 100000 in
set_option maxHeartbeats 400000 in
theorem clone_any (a : Option Addr) (len cap : Nat) (l : List Int) (w : World) (h : Bts w a len cap l) (hs : len ≤ 1099511627776) :
    Calls Tryz.prog 111 #[.slice a len cap] w fun e w' => ∃ v, e = .returned v ∧ w'.ownsRow w.heap.size 5 1 v len (bv l) ∧ Below w.heap.size w w' := by
  cases a with
  | none =>
    have hc0 := h.nil rfl
    have hlc := h.le_cap
    have hl := h.len_eq
    obtain rfl : cap = 0 := hc0
    obtain rfl : len = 0 := by omega
    obtain rfl : l = [] := List.eq_nil_of_length_eq_zero hl
    have hnil := eql_nil w none 0 0
    go_enter Tryz.func111, Tryz.ntmps111
    go_wp2
    go_ret
    exact ⟨_, rfl, World.ownsRow_nil _ _ _ _, Below.refl _ _⟩
  | some ad =>
    have hb0 : Below w.heap.size w (w.alloc (.cells #[] 5)) := (Below.refl _ _).alloc (Nat.le_refl _) _
    have h0 := h.below hb0
    have ho0 : (w.alloc (.cells #[] 5)).ownsRow w.heap.size 5 1 (.slice (some ⟨w.heap.size, 0, none⟩) 0 0) 0 (bv []) := owns_row (l := []) rfl rfl (by decide) (Nat.le_refl _)
    have hsz := hb0.size
    have hnil := eql_nil w (some ad) len cap
    go_enter Tryz.func111, Tryz.ntmps111
    go_wp2_with (at_builtin; refine wpList_append_bts rfl (.tmp 5) (.tmp 6) rfl w.heap.size 0 _ [] rfl ho0 (some ad) len cap l rfl h0 (by omega) hsz ?_; intro v1 w1 ho1 hb1 _)
    rw [Nat.zero_add, List.nil_append] at ho1
    go_ret
    exact ⟨_, rfl, ho1, hb0.trans hb1⟩
end Go.Proofs.YtipakjenggeflaaGreatDoor
namespace Go.Proofs.YtipakjenggeflaaGreatDoor
open Go.RowKit
set_option linter.unusedVariables false

def EnD (e : En) : Prop := Dig e.H ∧ Dig e.S
end Go.Proofs.YtipakjenggeflaaGreatDoor
