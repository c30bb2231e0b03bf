/- Small calls of a tenant. A tenant that no call made. -/
import Derived.Test.YtipakjenggeflaaGreatDoorTnPart
import Derived.Test.YtipakjenggeflaaGreatDoorPkai
import Derived.Test.YtipakjenggeflaaGreatDoorDecAny
import Derived.Test.YtipakjenggeflaaGreatDoorPkaj
import Derived.Test.YtipakjenggeflaaGreatDoorShelfAtoi
import Derived.Lib.AtoiAllCases
import Derived.Deep.CutRange
import Derived.BigQuiet
namespace Go.Proofs.YtipakjenggeflaaGreatDoor
open Go.RowKit
set_option linter.unusedVariables false

set_option maxRecDepth 100000 in
theorem within22_any (x a b : Int) (w : World) : Calls Tryz.prog 82 #[.int .i64 x, .int .i64 a, .int .i64 b] w fun e w' => e = .returned (.bool (decide (a ≤ x) && decide (x ≤ b))) ∧ w' = w := by
  by_cases h1 : a ≤ x
  · go_enter Tryz.func82, Tryz.ntmps82
    go_wp2_with fail
    go_ret
    exact ⟨ret_bool (by simp [h1]), rfl⟩
  · go_enter Tryz.func82, Tryz.ntmps82
    go_wp2_with fail
    go_ret
    exact ⟨ret_bool (by simp [show ¬ a ≤ x by omega]), rfl⟩
/-- what is told: a status and a body -/
abbrev tdV (c : Int) (a : Option Addr) (n cap : Nat) : Value := .agg #[.int .i64 c, .slice a n cap]
def TdP (c : Int) (B : List Int) (w : World) (e : Ending) (w' : World) : Prop := ∃ a n cap, e = .returned (tdV c a n cap) ∧ Bts w' a n cap B ∧ Below w.heap.size w w'
set_option maxRecDepth 100000 in
theorem bts_noneT (w : World) : Bts w none 0 0 [] := ⟨rfl, Byt.nil, Nat.le_refl _, Nat.zero_le _, fun _ => rfl, fun h => absurd h (Nat.lt_irrefl _)⟩
set_option maxRecDepth 100000 in
/-- a new variable of two cells -/
theorem row2_new (w : World) (x y : Value) (T : TypeId) : (w.alloc (.cells #[x, y] T)).heap[w.heap.size]? = some (.cells #[x, y] T (0, 0)) := heap_alloc_new w (.cells #[x, y] T)
set_option maxHeartbeats 4000000 in
set_option maxRecDepth 100000 in
theorem refused_any (c : Int) (w : World) : Calls Tryz.prog 46 #[.int .i64 c] w fun e w' => e = .returned (tdV c none 0 0) ∧ Below w.heap.size w w' := by
  have hb0 : Below w.heap.size w (w.alloc (.cells #[.int .i64 0, .slice none 0 0] 44)) := (Below.refl _ _).alloc (Nat.le_refl _) _
  have HR0 := Bx.mk (row2_new w (.int .i64 0) (.slice none 0 0) 44)
  obtain ⟨gr, HGR⟩ : ∃ gr, Bx (w.heap.size = gr) := ⟨_, ⟨rfl⟩⟩
  rw [HGR.out] at HR0
  have HB0 := Bx.mk hb0
  clear hb0
  go_enter Tryz.func46, Tryz.ntmps46
  go_upto_region 1 with fail
  rw [HGR.out]
  generalize w.alloc (.cells #[.int .i64 0, .slice none 0 0] 44) = w1 at HB0 HR0 ⊢
  have x0 := cell_of_row _ gr 0 _ _ (0, 0) HR0.out
  have x1 := cell_of_row _ gr 1 _ _ (0, 0) HR0.out
  have f0 := frozen_of_row _ gr 0 _ _ HR0.out
  have f1 := frozen_of_row _ gr 1 _ _ HR0.out
  have HBE := Bx.mk ((HB0.out.setCell (p := ⟨gr, 0, none⟩) (by rw [HGR.out]; exact Nat.le_refl _) (.int .i64 c)).setCell (p := ⟨gr, 1, none⟩) (by rw [HGR.out]; exact Nat.le_refl _) (.slice none 0 0))
  go_wp2_with fail
  exact bodyPost_ret (v := tdV c none 0 0) (by simp [results, Tryz.results46, go_sem, x0, x1]) rfl ⟨rfl, HBE.out⟩
set_option maxHeartbeats 4000000 in
set_option maxRecDepth 100000 in
theorem said_any (s : ByteArray) (hs : s.size ≤ 1000000) (w : World) : Calls Tryz.prog 102 #[.string s] w (TdP 200 (strL s) w) := by
  have hb0 : Below w.heap.size w (w.alloc (.cells #[.int .i64 0, .slice none 0 0] 44)) := (Below.refl _ _).alloc (Nat.le_refl _) _
  have HR0 := Bx.mk (row2_new w (.int .i64 0) (.slice none 0 0) 44)
  obtain ⟨gr, HGR⟩ : ∃ gr, Bx (w.heap.size = gr) := ⟨_, ⟨rfl⟩⟩
  rw [HGR.out] at HR0
  have HB0 := Bx.mk hb0
  clear hb0
  go_enter Tryz.func102, Tryz.ntmps102
  go_upto_region 1 with fail
  rw [HGR.out]
  generalize w.alloc (.cells #[.int .i64 0, .slice none 0 0] 44) = w1 at HB0 HR0 ⊢
  obtain ⟨c, w2, hcv, hb2, hm2⟩ := conv_bytes w1 s (by unfold maxLen; omega)
  have HR2 := Bx.mk ((hb2.block gr (Array.getElem?_eq_some_iff.1 HR0.out).1).trans HR0.out)
  have HB2 := Bx.mk (HB0.out.trans (hb2.mono HB0.out.size))
  have x0 := cell_of_row _ gr 0 _ _ (0, 0) HR2.out
  have x1 := cell_of_row _ gr 1 _ _ (0, 0) HR2.out
  have f0 := frozen_of_row _ gr 0 _ _ HR2.out
  have f1 := frozen_of_row _ gr 1 _ _ HR2.out
  have HBE := Bx.mk ((HB2.out.setCell (p := ⟨gr, 0, none⟩) (by rw [HGR.out]; exact Nat.le_refl _) (.int .i64 200)).setCell (p := ⟨gr, 1, none⟩) (by rw [HGR.out]; exact Nat.le_refl _) (.slice (some ⟨w1.heap.size, 0, none⟩) s.size c))
  have HNE : Bx (w1.heap.size ≠ gr) := ⟨fun e => by have := (Array.getElem?_eq_some_iff.1 HR0.out).1; omega⟩
  have HM : Bx (Bts ((w2.setCell ⟨gr, 0, none⟩ (.int .i64 200)).setCell ⟨gr, 1, none⟩ (.slice (some ⟨w1.heap.size, 0, none⟩) s.size c)) (some ⟨w1.heap.size, 0, none⟩) s.size c (strL s)) := ⟨hm2.keep (fun _ p e => by
    cases e
    rw [heap_setCell_other _ ⟨gr, 1, none⟩ _ _ HNE.out, heap_setCell_other _ ⟨gr, 0, none⟩ _ _ HNE.out]) (by simp [World.setCell])⟩
  clear hb2 hm2
  generalize w1.heap.size = g1 at hcv HBE HM ⊢
  generalize s.size = n at hcv HBE HM ⊢
  go_wp2_with fail
  exact bodyPost_ret (v := tdV 200 (some ⟨g1, 0, none⟩) n c) (by simp [results, Tryz.results102, go_sem, x0, x1]) rfl ⟨_, _, _, rfl, HM.out, HBE.out⟩
end Go.Proofs.YtipakjenggeflaaGreatDoor
namespace Go.Proofs.YtipakjenggeflaaGreatDoor
open Go.RowKit
set_option linter.unusedVariables false

/-- no tenant, or one that no call made -/
def NoTn (w : World) (p : Option Addr) : Prop := p = none ∨ ∃ g, p = some ⟨g, 0, none⟩ ∧ w.cell? ⟨g, 4, none⟩ = some (.pointer none) ∧ g < w.heap.size
set_option maxRecDepth 100000 in
theorem NoTn.below {w w' : World} {p : Option Addr} (h : NoTn w p) (hb : Below w.heap.size w w') : NoTn w' p := by
  rcases h with h | ⟨g, h1, h2, h3⟩
  · exact .inl h
  · exact .inr ⟨g, h1, (hb.cell h3).trans h2, Nat.lt_of_lt_of_le h3 hb.size⟩
set_option maxRecDepth 100000 in
theorem made22_no {w : World} {p : Option Addr} (h : NoTn w p) :
    Calls Tryz.prog 45 #[.pointer p] w fun e w' => e = .returned (.bool false) ∧ w' = w := by
  rcases h with rfl | ⟨g, rfl, c4, _⟩
  · go_enter Tryz.func45, Tryz.ntmps45
    go_wp2_with fail
    go_ret
    exact ⟨rfl, rfl⟩
  · go_enter Tryz.func45, Tryz.ntmps45
    go_wp2_with fail
    go_ret
    exact ⟨rfl, rfl⟩
set_option maxRecDepth 100000 in
theorem wants22_no {w : World} {p : Option Addr} (h : NoTn w p) :
    Calls Tryz.prog 23 #[.pointer p] w fun e w' => e = .returned (.bool false) ∧ w' = w := by
  have HM := Bx.mk (made22_no h)
  clear h
  go_enter Tryz.func23, Tryz.ntmps23
  go_wp2_with fail
  refine HM.out.mono ?_
  rintro e w1 ⟨rfl, hw1⟩
  subst hw1
  go_wp2_with fail
  go_ret
  exact ⟨rfl, rfl⟩
set_option maxRecDepth 100000 in
theorem ledger22_no {w : World} {p : Option Addr} (h : NoTn w p) :
    Calls Tryz.prog 26 #[.pointer p] w fun e w' => e = .returned (.pointer none) ∧ w' = w := by
  have HM := Bx.mk (made22_no h)
  clear h
  go_enter Tryz.func26, Tryz.ntmps26
  go_wp2_with fail
  refine HM.out.mono ?_
  rintro e w1 ⟨rfl, hw1⟩
  subst hw1
  go_wp2_with fail
  go_ret
  exact ⟨rfl, rfl⟩
set_option maxRecDepth 100000 in
theorem store22_no {w : World} {p : Option Addr} (h : NoTn w p) :
    Calls Tryz.prog 24 #[.pointer p] w fun e w' => e = .returned (.pointer none) ∧ w' = w := by
  have HM := Bx.mk (made22_no h)
  clear h
  go_enter Tryz.func24, Tryz.ntmps24
  go_wp2_with fail
  refine HM.out.mono ?_
  rintro e w1 ⟨rfl, hw1⟩
  subst hw1
  go_wp2_with fail
  go_ret
  exact ⟨rfl, rfl⟩
set_option maxRecDepth 100000 in
theorem step22_no {w : World} {p : Option Addr} (h : NoTn w p) (n : Int) :
    Calls Tryz.prog 16 #[.pointer p, .int .i64 n] w fun e w' => e = .returned (.tuple #[.int .i64 0, .bool false]) ∧ w' = w := by
  have HM := Bx.mk (wants22_no h)
  clear h
  go_enter Tryz.func16, Tryz.ntmps16
  go_wp2_with fail
  refine HM.out.mono ?_
  rintro e w1 ⟨rfl, hw1⟩
  subst hw1
  go_wp2_with fail
  go_ret2
  exact ⟨rfl, rfl⟩
set_option maxRecDepth 100000 in
/-- the parameter's variable, the result's: Do -/
theorem ask_twoN (w : World) (r : Array Value) : (((w.alloc (.cells r 36)).alloc (.cells #[.int .i64 0, .slice none 0 0] 44)).heap[w.heap.size + 1]? = some (.cells #[.int .i64 0, .slice none 0 0] 44 (0, 0))) ∧ Below w.heap.size w ((w.alloc (.cells r 36)).alloc (.cells #[.int .i64 0, .slice none 0 0] 44)) := by
  obtain ⟨h1, h2, h3⟩ := two_new18 w (.cells r 36) (.cells #[.int .i64 0, .slice none 0 0] 44)
  exact ⟨h2, h3⟩
set_option maxHeartbeats 1000000 in
theorem do22_no {w : World} {p : Option Addr} (h : NoTn w p) (k A B now : Int) (nm sp : ByteArray) (ab : Option Addr) (n c : Nat) :
    Calls Tryz.prog 15 #[.pointer p, .agg #[.int .i64 k, .string nm, .string sp, .slice ab n c, .int .i64 A, .int .i64 B], .int .i64 now] w fun e w' => e = .returned (tdV 503 none 0 0) ∧ Below w.heap.size w w' := by
  obtain ⟨hR, hb0⟩ := ask_twoN w #[.int .i64 k, .string nm, .string sp, .slice ab n c, .int .i64 A, .int .i64 B]
  have HM := Bx.mk (made22_no (h.below hb0))
  have HR := Bx.mk hR
  have HB := Bx.mk hb0
  obtain ⟨gr, HGR⟩ : ∃ gr, Bx (w.heap.size + 1 = gr) := ⟨_, ⟨rfl⟩⟩
  have HGE : Bx (w.heap.size ≤ gr) := ⟨by have := HGR.out; omega⟩
  rw [HGR.out] at HR
  clear hR hb0 h
  go_enter Tryz.func15, Tryz.ntmps15
  go_upto_region 1 with fail
  rw [HGR.out]
  generalize (w.alloc (.cells #[.int .i64 k, .string nm, .string sp, .slice ab n c, .int .i64 A, .int .i64 B] 36)).alloc (.cells #[.int .i64 0, .slice none 0 0] 44) = w1 at HR HB HM ⊢
  go_wp2_with fail
  refine HM.out.mono ?_
  rintro e wz ⟨rfl, hwz⟩
  have hwz2 := hwz.symm
  subst hwz2
  clear hwz HM
  go_wp2_with fail
  refine (refused_any 503 _).mono ?_
  rintro e w2 ⟨rfl, hb2⟩
  have HR2 := Bx.mk ((hb2.block gr (Array.getElem?_eq_some_iff.1 HR.out).1).trans HR.out)
  have HB2 := Bx.mk (HB.out.trans (hb2.mono HB.out.size))
  have x0 := cell_of_row _ gr 0 _ _ (0, 0) HR2.out
  have x1 := cell_of_row _ gr 1 _ _ (0, 0) HR2.out
  have f0 := frozen_of_row _ gr 0 _ _ HR2.out
  have f1 := frozen_of_row _ gr 1 _ _ HR2.out
  have HBE := Bx.mk ((HB2.out.setCell (p := ⟨gr, 0, none⟩) HGE.out (.int .i64 503)).setCell (p := ⟨gr, 1, none⟩) HGE.out (.slice none 0 0))
  clear hb2 HR HB
  go_wp2_with fail
  exact bodyPost_ret (v := tdV 503 none 0 0) (by simp [results, Tryz.results15, go_sem, x0, x1]) rfl ⟨rfl, HBE.out⟩
end Go.Proofs.YtipakjenggeflaaGreatDoor
