/- A tenant commits changes. Keys, what a tenant has under them, how many jobs. -/
import Derived.Test.YtipakjenggeflaaGreatDoorPkau
import Derived.Test.YtipakjenggeflaaGreatDoorErrIs
import Derived.Test.YtipakjenggeflaaGreatDoorPkaa
import Derived.Test.YtipakjenggeflaaGreatDoorPkae
import Derived.Test.YtipakjenggeflaaGreatDoorPkaf
import Derived.Test.YtipakjenggeflaaGreatDoorQSmall
import Derived.BigQuiet
import Derived.Deep.CutRange
namespace Go.Proofs.YtipakjenggeflaaGreatDoor
open Go.RowKit
set_option linter.unusedVariables false

/-- a change as a value -/
abbrev chV (k : ByteArray) (d : Bool) (a : Option Addr) (n c : Nat) : Value := .agg #[.string k, .bool d, .slice a n c]
set_option maxRecDepth 100000 in
theorem row3_new (w : World) (x y z : Value) (T : TypeId) : (w.alloc (.cells #[x, y, z] T)).heap[w.heap.size]? = some (.cells #[x, y, z] T (0, 0)) := heap_alloc_new w (.cells #[x, y, z] T)
set_option maxHeartbeats 4000000 in
set_option maxRecDepth 100000 in
theorem set22_any (k : ByteArray) (a : Option Addr) (n c : Nat) (w : World) : Calls Tryz.prog 93 #[.string k, .slice a n c] w fun e w' => e = .returned (chV k false a n c) ∧ Below w.heap.size w w' := by
    have hb0 : Below w.heap.size w (w.alloc (.cells #[.string ⟨#[]⟩, .bool false, .slice none 0 0] 167)) := (Below.refl _ _).alloc (Nat.le_refl _) _
    have HR0 := Bx.mk (row3_new w (.string ⟨#[]⟩) (.bool false) (.slice none 0 0) 167)
    obtain ⟨gr, HGR⟩ : ∃ gr, Bx (w.heap.size = gr) := ⟨_, ⟨rfl⟩⟩
    rw [HGR.out] at HR0
    have HB0 := Bx.mk hb0
    clear hb0
    go_enter Tryz.func93, Tryz.ntmps93
    go_upto_region 1 with fail
    rw [HGR.out]
    generalize w.alloc (.cells #[.string ⟨#[]⟩, .bool false, .slice none 0 0] 167) = w1 at HB0 HR0 ⊢
    have x0 := cell_of_row _ gr 0 _ _ (0, 0) HR0.out
    have x1 := cell_of_row _ gr 1 _ _ (0, 0) HR0.out
    have x2 := cell_of_row _ gr 2 _ _ (0, 0) HR0.out
    have f0 := frozen_of_row _ gr 0 _ _ HR0.out
    have f1 := frozen_of_row _ gr 1 _ _ HR0.out
    have f2 := frozen_of_row _ gr 2 _ _ HR0.out
    have HBE := Bx.mk (((HB0.out.setCell (p := ⟨gr, 0, none⟩) (by rw [HGR.out]; exact Nat.le_refl _) (.string k)).setCell (p := ⟨gr, 1, none⟩) (by rw [HGR.out]; exact Nat.le_refl _) (.bool false)).setCell (p := ⟨gr, 2, none⟩) (by rw [HGR.out]; exact Nat.le_refl _) (.slice a n c))
    go_wp2_with fail
    exact bodyPost_ret (v := chV k false a n c) (by simp [results, Tryz.results93, go_sem, x0, x1, x2]) rfl ⟨rfl, HBE.out⟩
set_option maxRecDepth 100000 in
/-- a list of changes, written out -/
theorem build_ch1 (k : ByteArray) (d : Bool) (a : Option Addr) (n c : Nat) (w : World) : (Instr.buildSlice 155 1 #[(0, chV k d a n c)]).run Tryz.prog w = .ok (.slice (some ⟨w.heap.size, 0, none⟩) 1 1) (w.alloc (.cells #[.string k, .bool d, .slice a n c] 167)) := by kernel_rfl
set_option maxRecDepth 100000 in
theorem ct_one {w : World} {k : ByteArray} {d : Bool} {a : Option Addr} {n c : Nat} {v : List Int} {B : Nat → Prop} (h : Bts w a n c v) (hB : 0 < n → ∀ p, a = some p → B p.block) (hB2 : B w.heap.size) :
    CT B (w.alloc (.cells #[.string k, .bool d, .slice a n c] 167)) (some ⟨w.heap.size, 0, none⟩) 1 1 [⟨k, d, v⟩] := by
  have hr := heap_alloc_new w (.cells #[.string k, .bool d, .slice a n c] 167)
  have hb : Below w.heap.size w (w.alloc (.cells #[.string k, .bool d, .slice a n c] 167)) := (Below.refl _ _).alloc (Nat.le_refl _) _
  refine ⟨rfl, Nat.le_refl _, by unfold maxLen; decide, fun _ => ⟨w.heap.size, 0, rfl, (Array.getElem?_eq_some_iff.1 hr).1, hB2, fun i hi => ?_⟩⟩
  obtain rfl : i = 0 := by omega
  refine ⟨⟨⟨k, d, v⟩, a, n, c⟩, rfl, fun j hj => ?_, h.below hb, hB⟩
  rw [cell_of_row _ w.heap.size (0 + 0 * 3 + j) _ _ (0, 0) hr, Nat.zero_mul, Nat.add_zero, Nat.zero_add]
  exact List.getElem?_toArray ..
section
variable {A : Ad} {o : Nat → Nat → Prop} {w : World} {own : Nat → Prop} {l : Lm} {K : List Int} {s : DS} {L : LS} {M : List Pr} {E : List (List Int)} {Q : List Int} {tk : Option (Nat × List Int × List Int)} {vT : Value}
set_option maxHeartbeats 4000000 in
set_option maxRecDepth 100000 in
theorem commit22_any (h : TnX A o w own l K s L M E Q tk vT) (B : Nat → Prop) (a : Option Addr) (n c : Nat) (C : List Chg) (hc : CT B w a n c C) (hB : ∀ j, B j → ¬ own j) (hks : ∀ c ∈ C, c.key.size ≤ 9223372036854775807) (hO : s.O.length ≤ 900000) (hu : byM M ≤ 1000000000000) :
    Calls Tryz.prog 92 #[.pointer (some ⟨A.gt, 0, none⟩), .slice a n c] w fun e w' => e = .returned (.int .i64 (cmC (coE s L l.q M C))) ∧ (∃ o', TnX A o' w' (ownN own w w') l K (coS s L l.q M C) (coL s L l.q M C) (coM s L l.q M C) E Q tk vT) ∧ Did own w w' (ownN own w w') := by
  have HC := Bx.mk (tn_commit h B a n c C hc hB hks hO hu)
  obtain ⟨r, HR⟩ : ∃ r, Bx (coE s L l.q M C = r) := ⟨_, ⟨rfl⟩⟩
  rw [HR.out] at HC ⊢
  have c4 := h.c4
  obtain ⟨x, HX⟩ : ∃ x, Bx (cmC r = x) := ⟨_, ⟨rfl⟩⟩
  rw [HX.out]
  have HXE := HX.out
  unfold cmC at HXE
  clear h hc
  go_enter Tryz.func92, Tryz.ntmps92
  go_wp2_with fail
  refine HC.out.mono ?_
  rintro e w2 ⟨rfl, hT, hd⟩
  have HT := Bx.mk hT
  have HD := Bx.mk hd
  clear hT hd c4
  by_cases h0 : r = 0
  · rw [if_pos h0] at HXE
    have HXX := Bx.mk HXE
    subst h0
    clear HXE
    go_wp2_with fail
    go_ret
    exact ⟨ret_int HXX.out, HT.out, HD.out⟩
  rw [if_neg h0] at HXE
  have hq0 : (r == 0) = false := beq_false_of_ne h0
  by_cases h1 : r = 12
  · rw [if_pos (.inl h1)] at HXE
    have HXX := Bx.mk HXE
    have hd1 : decide (r = 12) = true := decide_eq_true h1
    clear HXE h0 h1
    go_wp2_with fail
    refine (errorsis_any r 12 _).mono ?_
    rintro e wz ⟨rfl, hwz⟩
    subst hwz
    rw [hd1]
    go_wp2_with fail
    go_ret
    exact ⟨ret_int HXX.out, HT.out, HD.out⟩
  by_cases h2 : r = 11
  · rw [if_pos (.inr h2)] at HXE
    have HXX := Bx.mk HXE
    have hd1 : decide (r = 12) = false := decide_eq_false h1
    have hd2 : decide (r = 11) = true := decide_eq_true h2
    clear HXE h0 h1 h2
    go_wp2_with fail
    refine (errorsis_any r 12 _).mono ?_
    rintro e wz ⟨rfl, hwz⟩
    subst hwz
    rw [hd1]
    go_wp2_with fail
    refine (errorsis_any r 11 _).mono ?_
    rintro e wz ⟨rfl, hwz⟩
    subst hwz
    rw [hd2]
    go_wp2_with fail
    go_ret
    exact ⟨ret_int HXX.out, HT.out, HD.out⟩
  rw [if_neg (fun e => by rcases e with e | e; exact h1 e; exact h2 e)] at HXE
  have HXX := Bx.mk HXE
  have hd1 : decide (r = 12) = false := decide_eq_false h1
  have hd2 : decide (r = 11) = false := decide_eq_false h2
  clear HXE h0 h1 h2
  go_wp2_with fail
  refine (errorsis_any r 12 _).mono ?_
  rintro e wz ⟨rfl, hwz⟩
  subst hwz
  rw [hd1]
  go_wp2_with fail
  refine (errorsis_any r 11 _).mono ?_
  rintro e wz ⟨rfl, hwz⟩
  subst hwz
  rw [hd2]
  go_wp2_with fail
  go_ret
  exact ⟨ret_int HXX.out, HT.out, HD.out⟩
end
end Go.Proofs.YtipakjenggeflaaGreatDoor
namespace Go.Proofs.YtipakjenggeflaaGreatDoor
open Go.RowKit
set_option linter.unusedVariables false
open Go.Lib (decDigits)

section
variable {A : Ad} {o : Nat → Nat → Prop} {w : World} {own : Nat → Prop} {l : Lm} {K : List Int} {s : DS} {L : LS} {M : List Pr} {E : List (List Int)} {Q : List Int} {tk : Option (Nat × List Int × List Int)} {vT : Value}
set_option maxRecDepth 100000 in
theorem has22_any (h : TnX A o w own l K s L M E Q tk vT) (hby : ∀ k, Byt (valM M k)) (k : ByteArray) :
    Calls Tryz.prog 89 #[.pointer (some ⟨A.gt, 0, none⟩), .string k] w fun e w' => e = .returned (.bool (hasM M k)) ∧ Below w.heap.size w w' := by
  have HG := Bx.mk (tn_get h hby k)
  have c4 := h.c4
  clear h
  go_enter Tryz.func89, Tryz.ntmps89
  go_wp2_with fail
  refine HG.out.mono ?_
  rintro e w2 ⟨a, c, rfl, _, _, hb⟩
  have HB := Bx.mk hb
  clear hb c4
  go_wp2_with fail
  go_ret
  exact ⟨rfl, HB.out⟩
set_option maxRecDepth 100000 in
theorem made22_yes (h : TnX A o w own l K s L M E Q tk vT) :
    Calls Tryz.prog 45 #[.pointer (some ⟨A.gt, 0, none⟩)] w fun e w' => e = .returned (.bool true) ∧ w' = w := by
  have c4 := h.c4
  clear h
  go_enter Tryz.func45, Tryz.ntmps45
  go_wp2_with fail
  go_ret
  exact ⟨rfl, rfl⟩
end
end Go.Proofs.YtipakjenggeflaaGreatDoor
