/- The program's ledger: New. -/
import Derived.Test.YtipakjenggeflaaGreatDoorPkam
import Derived.Test.YtipakjenggeflaaGreatDoorPkad
import Derived.BigQuiet
import Derived.Laws.IdiomStrings
import Derived.Laws.Tables
namespace Go.Proofs.YtipakjenggeflaaGreatDoor
open Go.RowKit
set_option linter.unusedVariables false

set_option maxRecDepth 100000 in
theorem nilBq (w : World) (a : Option Addr) (l c : Nat) : (binOp .eql 34 (.slice a l c) (.slice none 0 0)).run Tryz.prog w = .ok (.bool a.isNone) w := by
  simp only [binOp]
  simp [run_equal_slice_nil w _ _ a l c Tryz.underlying34]
set_option maxHeartbeats 4000000 in
set_option maxRecDepth 100000 in
theorem bclone_some (ad : Addr) (len cap : Nat) (l : List Int) (w : World) (h : Bts w (some ad) len cap l) (hs : len ≤ 1000000) :
    Calls Tryz.prog 72 #[.slice (some ad) len cap] w fun e w' => ∃ v, e = .returned v ∧ w'.ownsRow w.heap.size 5 1 v len (bv l) ∧ Below w.heap.size w w' := by
  have hb0 : Below w.heap.size w (w.alloc (.cells #[] 5)) := (Below.refl _ _).alloc (Nat.le_refl _) _
  have HB := Bx.mk (h.below hb0)
  have HO0 : Bx ((w.alloc (.cells #[] 5)).ownsRow w.heap.size 5 1 (.slice (some ⟨w.heap.size, 0, none⟩) 0 0) 0 (bv [])) := ⟨World.ownsRow_lit w #[] 0 (Nat.le_refl _) (by unfold maxLen; omega) rfl⟩
  have HSZ := Bx.mk hb0.size
  have HB0 := Bx.mk hb0
  have hnil := nilBq w (some ad) len cap
  clear h hb0
  go_enter Tryz.func72, Tryz.ntmps72
  go_wp2_with (at_builtin; refine wpList_append_bts rfl _ _ rfl w.heap.size 0 _ [] rfl HO0.out (some ad) len cap l rfl HB.out (by omega) HSZ.out ?_)
  intro v1 w1 ho1 hl1 hg1
  have HO1 : Bx (w1.ownsRow w.heap.size 5 1 v1 len (bv l)) := ⟨by simpa using ho1⟩
  have HB1 : Bx (Below w.heap.size w w1) := ⟨HB0.out.trans hl1⟩
  clear ho1 hg1 hl1
  go_wp2_with fail
  go_ret
  exact ⟨_, rfl, HO1.out, HB1.out⟩
set_option maxHeartbeats 4000000 in
set_option maxRecDepth 100000 in
theorem bclone_none (w : World) :
    Calls Tryz.prog 72 #[.slice none 0 0] w fun e w' => e = .returned (.slice none 0 0) ∧ w' = w := by
  have hnil := nilBq w none 0 0
  go_enter Tryz.func72, Tryz.ntmps72
  go_wp2_with fail
  go_ret
  exact ⟨rfl, rfl⟩
set_option maxRecDepth 100000 in
/-- a copy of bytes, new -/
theorem bclone_any (a : Option Addr) (len cap : Nat) (l : List Int) (w : World) (h : Bts w a len cap l) (hs : len ≤ 1000000) :
    Calls Tryz.prog 72 #[.slice a len cap] w fun e w' => ∃ v, e = .returned v ∧ w'.ownsRow w.heap.size 5 1 v len (bv l) ∧ Below w.heap.size w w' := by
  cases a with
  | some ad => exact bclone_some ad len cap l w h hs
  | none =>
    have h0 := h.nil rfl
    have h1 := h.le_cap
    obtain rfl : cap = 0 := h0
    obtain rfl : len = 0 := by omega
    obtain rfl : l = [] := List.eq_nil_of_length_eq_zero h.len_eq
    refine (bclone_none w).mono ?_
    rintro e w1 ⟨rfl, rfl⟩
    exact ⟨_, rfl, World.ownsRow_nil _ _ _ _, Below.refl _ _⟩
/-- a new ledger's cells -/
def ldC (a : Option Addr) (n c : Nat) : List Value := .bool true :: .slice a n c :: (List.replicate 64 (.slice none 0 0) ++ [.int .i64 0])
def ldA (a : Option Addr) (n c : Nat) : Array Value := (ldC a n c).toArray
set_option maxRecDepth 100000 in
theorem ld_new {B : Nat} {w : World} {a : Option Addr} {n c : Nat} {K : List Int} (hB : B ≤ w.heap.size) (hK : Bts w a n c K) (ho : ∀ p, a = some p → B ≤ p.block ∧ p.block < w.heap.size) (hn : K.length ≤ 1000000) :
    Lg (w.alloc (.cells (ldA a n c) 132)) (fun b => B ≤ b ∧ b < w.heap.size + 1) w.heap.size K [] := by
  have hb : Below w.heap.size w (w.alloc (.cells (ldA a n c) 132)) := (Below.refl _ _).alloc (Nat.le_refl _) _
  refine ⟨⟨hB, Nat.lt_succ_self _⟩, fun b hb => by simpa using hb.2, Nat.zero_le _, (fun t ht => by cases ht), hn, ldA a n c, heap_alloc_new _ _, rfl, rfl, ⟨a, n, c, rfl, hK.below hb, fun _ p e => ⟨(ho p e).1, by have := (ho p e).2; omega⟩⟩, fun i hi => ?_, rfl⟩
  refine ⟨none, 0, 0, ?_, fun h => absurd h (Nat.not_lt_zero _)⟩
  unfold ldA ldC
  rw [List.getElem?_toArray, Nat.add_comm, List.getElem?_cons_succ, List.getElem?_cons_succ, List.getElem?_append_left (by simpa using hi), List.getElem?_replicate, if_pos hi]
set_option maxHeartbeats 4000000 in
set_option maxRecDepth 100000 in
theorem new21_any (a : Option Addr) (len cap : Nat) (K : List Int) (w : World) (h : Bts w a len cap K) (hs : len ≤ 1000000) :
    Calls Tryz.prog 41 #[.slice a len cap] w fun e w' => ∃ g own, e = .returned (.pointer (some ⟨g, 0, none⟩)) ∧ Lg w' own g K [] ∧ (∀ b, own b → w.heap.size ≤ b) ∧ Below w.heap.size w w' := by
  have hbyt := h.byt
  have HL : Bx (K.length ≤ 1000000) := ⟨by rw [h.len_eq]; exact hs⟩
  go_enter Tryz.func41, Tryz.ntmps41
  go_wp2_with fail
  refine (bclone_any a len cap K _ h hs).mono ?_
  rintro e w1 ⟨v, rfl, ho, hb⟩
  obtain ⟨ka, kc, rfl, hk⟩ := Bts.of_owns ho hbyt
  have HO : Bx (∀ p, ka = some p → w.heap.size ≤ p.block ∧ p.block < w1.heap.size) := ⟨fun p e => ho.lt p.block (by rw [e]; rfl)⟩
  have HG := Bx.mk (ld_new hb.size hk HO.out HL.out)
  have HB : Bx (Below w.heap.size w (w1.alloc (.cells (ldA ka len kc) 132))) := ⟨hb.alloc hb.size _⟩
  clear ho hb hk h HO
  have hbl : (Instr.build 132 #[(0, .bool true), (1, .slice ka len kc)]).run Tryz.prog w1 = .ok (.agg (ldA ka len kc)) w1 := run_build (P := Tryz.prog) w1 132 #[(0, .bool true), (1, .slice ka len kc)] (ldA ka len kc) (by kernel_rfl)
  go_wp2_with fail
  go_ret
  exact ⟨_, _, rfl, HG.out, fun b hb => hb.1, HB.out⟩
end Go.Proofs.YtipakjenggeflaaGreatDoor
