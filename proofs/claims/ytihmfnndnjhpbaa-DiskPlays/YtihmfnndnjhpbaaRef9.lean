/- What the small calls of the document's own disk answer. -/
import Derived.Test.YtihmfnndnjhpbaaRefMem9
import Derived.Test.YtihmfnndnjhpbaaDiskSmall
namespace Go.Proofs.Ytihmfnndnjhpbaa
open Go.RowKit
set_option linter.unusedVariables false

set_option maxRecDepth 100000 in
theorem vl_form {w : World} {v : Value} {base : Nat} {e : TypeId} {size n : Nat} {xs : List Value} (h : w.ownsRow base e size v n xs) : ∃ a c, v = .slice a n c ∧ n ≤ c ∧ c ≤ 9223372036854775807 := by
  rcases h.2 with ⟨rfl, rfl⟩ | ⟨g, cap, cur, rfl, _, _, h1, h2, _⟩
  · exact ⟨_, _, rfl, Nat.le_refl _, Nat.zero_le _⟩
  · unfold maxLen at h2
    exact ⟨_, _, rfl, h1, by omega⟩
set_option maxRecDepth 100000 in
set_option maxHeartbeats 400000 in
theorem rnew_any (n : Nat) (w : World) (h1 : 1 ≤ n) (h2 : n ≤ 4096) :
    Calls Try.prog 9 #[.int .i64 n] w fun e w' => ∃ g, e = .returned (.tuple #[.pointer (some ⟨g, 0, none⟩), .int .i64 0]) ∧ RS w' g (fun k => w.heap.size ≤ k ∧ k < w'.heap.size) (dnew n) 0 ∧ Below w.heap.size w w' := by
  have g1 : ¬ (n : Int) < 1 := by omega
  have g2 : ¬ (n : Int) > 4096 := by omega
  have hR : RS (w.alloc (.cells #[.int .i64 n, .slice none 0 0, .int .i64 (-1), .bool true] 65)) w.heap.size (fun k => w.heap.size ≤ k ∧ k < (w.alloc (.cells #[.int .i64 n, .slice none 0 0, .int .i64 (-1), .bool true] 65)).heap.size) (dnew n) 0 := by
    refine ⟨[], -1, true, .slice none 0 0, ⟨?_, World.ownsRow_nil _ _ _ _, (by intro x hx; cases hx), ⟨Nat.le_refl _, by simp⟩, (by intro k hk; simp [Value.ownBlock] at hk), fun k hk => hk.2, by decide, by simpa [dnew] using h2⟩, sim_new n, Nat.le_refl _⟩
    rw [heap_alloc_new]
    simp [dnew]
  have HR : Bx _ := ⟨hR⟩
  have HB : Bx (Below w.heap.size w (w.alloc (.cells #[.int .i64 n, .slice none 0 0, .int .i64 (-1), .bool true] 65))) := ⟨(Below.refl _ _).alloc (Nat.le_refl _) _⟩
  clear hR
  go_enter Try.func9, Try.ntmps9
  go_wp2
  go_ret2
  exact ⟨_, rfl, HR.out, HB.out⟩
set_option maxHeartbeats 400000 in
theorem rnew_bad (x : Int) (w : World) (h : x < 1 ∨ 4096 < x) :
    Calls Try.prog 9 #[.int .i64 x] w fun e w' => e = .returned (.tuple #[.pointer none, .int .i64 2]) ∧ w = w' := by
  by_cases h1 : x < 1
  · have g1 : decide (x < 1) = true := by simpa using h1
    go_enter Try.func9, Try.ntmps9
    go_wp2
    go_ret2
    exact ⟨rfl, rfl⟩
  · have g1 : decide (x < 1) = false := by simpa using h1
    have g2 : decide (x > 4096) = true := by rcases h with h | h; exact absurd h h1; simpa using h
    clear h
    go_enter Try.func9, Try.ntmps9
    go_wp2
    go_ret2
    exact ⟨rfl, rfl⟩
set_option maxRecDepth 100000 in
set_option maxHeartbeats 400000 in
theorem ropen_any (g : Nat) (own : Nat → Prop) (s : DS) (m : Nat) (w : World) (h : RS w g own s m) (hm : m ≤ 1000) :
    Calls Try.prog 34 #[.pointer (some ⟨g, 0, none⟩)] w fun e w' => e = .returned (.int .i64 s.O.length) ∧ w = w' := by
  obtain ⟨X, left, power, vl, hR, hS, hXm⟩ := h
  have HE : Bx (cntX X = s.O.length) := ⟨hS.count⟩
  obtain ⟨a, c, rfl, hc1, hc2⟩ := vl_form hR.lst
  have hXl : X.length ≤ 1000 := by omega
  have c1 := hR.c1
  have HR : Bx _ := ⟨hR⟩
  have HCL : Bx (∀ Y, cntX Y ≤ Y.length) := ⟨fun Y => List.length_filter_le _ _⟩
  clear hR hS hXm
  go_enter Try.func34, Try.ntmps34
  go_wp2
  go_loopw [3, 4] (fun v i wr => ∃ j q : Nat, j ≤ X.length ∧ i = .int .i64 j ∧ v = .int .i64 q ∧ q ≤ j ∧ Bx (q + cntX (X.drop j) = cntX X) ∧ wr = w) (fun _ i _ => X.length - (intOf i).toNat)
  case atStart => exact ⟨0, 0, Nat.zero_le _, rfl, rfl, Nat.le_refl _, ⟨by simp⟩, rfl⟩
  case round =>
    obtain ⟨j, q, hj, rfl, rfl, hq, HQ, hwr⟩ := hrel
    subst hwr
    by_cases hlt : j < X.length
    · have hI : (j : Int) < (X.length : Int) := by omega
      obtain ⟨gl, x, rfl, hx, k0, k1, k2⟩ := HR.out.nth j hlt
      have HC := cntX_round X j x hx
      have HCB : Bx (q + ((if x.sure then 0 else 1) + cntX (X.drop (j + 1))) = cntX X) := ⟨by rw [← HC]; exact HQ.out⟩
      generalize x.sure = sv at k2 HCB
      clear HC hx
      cases sv with
      | true =>
        go_wp2
        go_roundw
        case rel => exact ⟨j + 1, q, by omega, by go_num, rfl, by omega, ⟨by have := HCB.out; simp only [if_true] at this; omega⟩, by first | rfl | trivial⟩
        case measure => simp [intOf]; omega
      | false =>
        go_wp2
        go_roundw
        case rel => exact ⟨j + 1, q + 1, by omega, by go_num, by go_num, by omega, ⟨by have := HCB.out; simp only [Bool.false_eq_true, if_false] at this; omega⟩, by first | rfl | trivial⟩
        case measure => simp [intOf]; omega
    · obtain rfl : j = X.length := by omega
      have HF : Bx (q = s.O.length) := ⟨by have := HQ.out; rw [List.drop_length] at this; rw [← HE.out, ← this]; rfl⟩
      go_wp2
      go_ret
      exact ⟨ret_int (by rw [HF.out]), rfl⟩
set_option maxHeartbeats 400000 in
theorem rarm_any (g : Nat) (own : Nat → Prop) (s : DS) (m : Nat) (x : Int) (w : World) (h : RS w g own s m) (hx : x ≤ 9223372036854775807) :
    Calls Try.prog 31 #[.pointer (some ⟨g, 0, none⟩), .int .i64 x] w fun e w' => e = .returned (.int .i64 (s.arE x)) ∧ RS w' g own (s.ar x) m ∧ Kept own w w' := by
  have H : Bx (RS w g own s m) := ⟨h⟩
  obtain ⟨X, left, power, vl, hR, hS, hXm⟩ := h
  have c2 := hR.c2
  have c3 := hR.c3
  have f2 := hR.fr 2
  by_cases h1 : s.off = true
  · have HE : Bx (s.arE x = 14 ∧ s.ar x = s) := ⟨by simp [DS.arE, DS.ar, h1]⟩
    rw [show power = false from by rw [hS.power, h1]; rfl] at c3
    clear hR hS h1
    go_enter Try.func31, Try.ntmps31
    go_wp2
    go_ret
    exact ⟨ret_int HE.out.1.symm, by rw [HE.out.2]; exact H.out, Kept.refl _ _⟩
  · have h1' : s.off = false := by simpa using h1
    rw [show power = true from by rw [hS.power, h1']; rfl] at c3
    by_cases h2 : x < 0
    · have HE : Bx (s.arE x = 2 ∧ s.ar x = s) := ⟨by simp [DS.arE, DS.ar, h1', h2]⟩
      clear hR hS h1 h1'
      go_enter Try.func31, Try.ntmps31
      go_wp2
      go_ret
      exact ⟨ret_int HE.out.1.symm, by rw [HE.out.2]; exact H.out, Kept.refl _ _⟩
    · have HE : Bx (s.arE x = 0) := ⟨by simp [DS.arE, h1', h2]⟩
      have HD : Bx (RS (w.setCell ⟨g, 2, none⟩ (.int .i64 x)) g own (s.ar x) m) := ⟨⟨X, x, power, vl, by
        have e : (s.ar x).F = s.F := by simp [DS.ar, h1', h2]
        rw [e]; exact hR.setLeft x (by omega), hS.ar x h1' h2, hXm⟩⟩
      have HK : Bx (Kept own w (w.setCell ⟨g, 2, none⟩ (.int .i64 x))) := ⟨(Kept.refl own w).setCell (.inl hR.og) 2 _⟩
      clear hR hS h1 h1'
      go_enter Try.func31, Try.ntmps31
      go_wp2
      go_ret
      exact ⟨ret_int HE.out.symm, HD.out, HK.out⟩
set_option maxHeartbeats 400000 in
theorem goes_no (g : Nat) (own : Nat → Prop) (n : Nat) (X : List Ent) (power : Bool) (vl : Value) (w : World) (h : Rf w g own n X 0 power vl) :
    Calls Try.prog 40 #[.pointer (some ⟨g, 0, none⟩)] w fun e w' => e = .returned (.bool false) ∧ Rf w' g own n X 0 false vl ∧ Kept own w w' := by
  have c2 := h.c2
  have c3 := h.c3
  have f3 := h.fr 3
  have HD : Bx _ := ⟨h.setPower false⟩
  have HK : Bx (Kept own w (w.setCell ⟨g, 3, none⟩ (.bool false))) := ⟨(Kept.refl own w).setCell (.inl h.og) 3 _⟩
  clear h
  go_enter Try.func40, Try.ntmps40
  go_wp2
  go_ret
  exact ⟨rfl, HD.out, HK.out⟩
set_option maxHeartbeats 400000 in
theorem goes_yes (g : Nat) (own : Nat → Prop) (n : Nat) (X : List Ent) (left : Int) (power : Bool) (vl : Value) (w : World) (h : Rf w g own n X left power vl) (hl : left ≠ 0) :
    Calls Try.prog 40 #[.pointer (some ⟨g, 0, none⟩)] w fun e w' => e = .returned (.bool true) ∧ Rf w' g own n X (tickL left) power vl ∧ Kept own w w' := by
  have c2 := h.c2
  have f2 := h.fr 2
  have hlb := h.lb
  have hq : (left == 0) = false := by simpa using hl
  by_cases hp : left > 0
  · have e : tickL left = left - 1 := by unfold tickL; rw [if_pos hp]
    have HD : Bx (Rf (w.setCell ⟨g, 2, none⟩ (.int .i64 (left - 1))) g own n X (tickL left) power vl) := ⟨by rw [e]; exact h.setLeft (left - 1) (by omega)⟩
    have HK : Bx (Kept own w (w.setCell ⟨g, 2, none⟩ (.int .i64 (left - 1)))) := ⟨(Kept.refl own w).setCell (.inl h.og) 2 _⟩
    clear h e hl
    go_enter Try.func40, Try.ntmps40
    go_wp2
    go_ret
    exact ⟨rfl, HD.out, HK.out⟩
  · have e : tickL left = left := by unfold tickL; rw [if_neg hp]
    have HD : Bx (Rf w g own n X (tickL left) power vl) := ⟨by rw [e]; exact h⟩
    clear h e hl
    go_enter Try.func40, Try.ntmps40
    go_wp2
    go_ret
    exact ⟨rfl, HD.out, Kept.refl _ _⟩
set_option maxRecDepth 100000 in
theorem made_s0 : (madeCells #[Value.int .u8 0] 64).toList = bv s0 := by kernel_rfl
set_option maxRecDepth 100000 in
set_option maxHeartbeats 400000 in
theorem rbytes_any (g : Nat) (own : Nat → Prop) (n : Nat) (X : List Ent) (left : Int) (power : Bool) (vl : Value) (x : Int) (w : World) (h : Rf w g own n X left power vl) (hm : X.length ≤ 1000) :
    Calls Try.prog 42 #[.pointer (some ⟨g, 0, none⟩), .int .i64 x] w fun e w' => ∃ a c, e = .returned (.slice a 64 c) ∧ Bts w' a 64 c (lstX X x s0) ∧ Below w.heap.size w w' := by
  obtain ⟨a, c, rfl, hc1, hc2⟩ := vl_form h.lst
  have c1 := h.c1
  have HR : Bx _ := ⟨h⟩
  clear h
  go_enter Try.func42, Try.ntmps42
  go_wp2
  go_loopw [5] (fun i wr => ∃ j : Nat, j ≤ X.length ∧ i = .int .i64 ((j : Int) - 1) ∧ Bx (anyX (X.drop j) x = false) ∧ wr = w) (fun i _ => (intOf i + 1).toNat)
  case atStart => exact ⟨X.length, Nat.le_refl _, rfl, ⟨by rw [List.drop_length]; rfl⟩, rfl⟩
  case round =>
    obtain ⟨j, hj, rfl, HA, hwr⟩ := hrel
    subst hwr
    by_cases hz : 0 < j
    · obtain ⟨t, rfl⟩ : ∃ t, j = t + 1 := ⟨j - 1, by omega⟩
      have hlt : t < X.length := by omega
      have hI : (t : Int) < (X.length : Int) := by omega
      have e1 : ((t + 1 : Nat) : Int) - 1 = (t : Int) := by omega
      have hge : decide ((t : Int) ≥ 0) = true := by simp
      obtain ⟨gl, y, rfl, hy, k0, k1, k2⟩ := HR.out.nth t hlt
      have hmem : y ∈ X := List.mem_of_getElem? hy
      have HAR := anyX_round X t y x hy
      by_cases hp : y.pos = x
      · have HL : Bx (lstX X x s0 = y.l) := ⟨lstX_hit X t y x s0 hy hp HA.out⟩
        obtain ⟨b, cb, e2, hb⟩ := (HR.out.ents y hmem).bts
        rw [hp] at k0
        rw [e2] at k1
        have HBT : Bx _ := ⟨hb⟩
        clear HAR hy hmem hp e2 hb k2
        rw [e1]
        clear e1
        go_wp2
        go_ret
        exact ⟨_, _, rfl, by rw [HL.out]; exact HBT.out, Below.refl _ _⟩
      · have hpq : (y.pos == x) = false := by simpa using hp
        have HAN : Bx (anyX (X.drop t) x = false) := ⟨by rw [HAR, HA.out, decide_eq_false hp]; rfl⟩
        generalize y.pos = yp at k0 hpq
        clear HAR hy hmem hp k1 k2
        rw [e1]
        clear e1
        go_wp2
        go_roundw
        case rel => exact ⟨t, by omega, by go_num, HAN, by first | rfl | trivial⟩
        case measure => simp [intOf]
    · obtain rfl : j = 0 := by omega
      have HL : Bx (lstX X x s0 = s0) := ⟨lstX_none X x s0 (by have := HA.out; rwa [List.drop_zero] at this)⟩
      obtain ⟨i0, hi0, hz0, hz1, hz2⟩ := info_parts Try.info5
      go_wp2_with (at_make; refine wpList_make_full _ rfl _ _ 33 rfl wr.heap.size 5 i0 (.int .u8 0) 1 Try.underlying33 hi0 hz0 hz1 _ _ _ _ 64 rfl rfl rfl rfl (by rw [hz2]; decide) (by decide) (Nat.le_refl _) ?_)
      intro w1 hown hgrow
      have hb1 : Below wr.heap.size wr w1 := (Below.refl _ _).grown hgrow (Nat.le_refl _) (by intro k hk; cases hk)
      rw [made_s0] at hown
      obtain ⟨a9, c9, e9, h9⟩ := Bts.of_owns hown s0_sx.2
      cases e9
      clear hown hgrow hi0 hz0 hz1 hz2
      go_wp2
      go_ret
      exact ⟨_, _, rfl, by rw [HL.out]; exact h9, hb1⟩
set_option maxRecDepth 100000 in
set_option maxHeartbeats 400000 in
theorem rread_any (g : Nat) (own : Nat → Prop) (s : DS) (m : Nat) (x : Int) (w : World) (h : RS w g own s m) (hm : m ≤ 1000) :
    Calls Try.prog 33 #[.pointer (some ⟨g, 0, none⟩), .int .i64 x] w fun e w' => ∃ v, e = .returned (.tuple #[v, .int .i64 (s.rdE x)]) ∧ w'.ownsRow w.heap.size 5 1 v (s.rdL x).length (bv (s.rdL x)) ∧ Below w.heap.size w w' := by
  obtain ⟨X, left, power, vl, hR, hS, hXm⟩ := h
  have c0 := hR.c0
  have c3 := hR.c3
  by_cases h1 : s.off = true
  · have HE : Bx (s.rdE x = 14 ∧ s.rdL x = []) := ⟨by simp [DS.rdE, DS.rdL, h1]⟩
    rw [show power = false from by rw [hS.power, h1]; rfl] at c3
    clear hR hS h1
    go_enter Try.func33, Try.ntmps33
    go_wp2
    go_ret2
    exact ⟨_, by rw [HE.out.1]; rfl, by rw [HE.out.2]; exact World.ownsRow_nil _ _ _ _, Below.refl _ _⟩
  · have h1' : s.off = false := by simpa using h1
    rw [show power = true from by rw [hS.power, h1']; rfl] at c3
    have HRB : Bx _ := ⟨hR⟩
    have hrd := hS.read
    by_cases h2 : x < 0
    · have g2 : decide (x < 0) = true := by simpa using h2
      have HE : Bx (s.rdE x = 2 ∧ s.rdL x = []) := ⟨by
        have e : decide (0 ≤ x) = false := by simpa using h2
        simp [DS.rdE, DS.rdL, h1', e]⟩
      clear hR hS h1 h1' hrd
      go_enter Try.func33, Try.ntmps33
      go_wp2
      go_ret2
      exact ⟨_, by rw [HE.out.1]; rfl, by rw [HE.out.2]; exact World.ownsRow_nil _ _ _ _, Below.refl _ _⟩
    · have g2 : decide (x < 0) = false := by simpa using h2
      by_cases h3 : x ≥ (s.F.length : Int)
      · have g3 : decide (x ≥ (s.F.length : Int)) = true := by simpa using h3
        have HE : Bx (s.rdE x = 2 ∧ s.rdL x = []) := ⟨by
          have e : decide (x < (s.F.length : Int)) = false := by simpa using h3
          simp [DS.rdE, DS.rdL, h1', e]⟩
        generalize s.F.length = nn at c0 g3 h3
        clear hR hS h1 h1' hrd HRB
        go_enter Try.func33, Try.ntmps33
        go_wp2
        go_ret2
        exact ⟨_, by rw [HE.out.1]; rfl, by rw [HE.out.2]; exact World.ownsRow_nil _ _ _ _, Below.refl _ _⟩
      · have g3 : decide (x ≥ (s.F.length : Int)) = false := by simpa using h3
        obtain ⟨k, rfl⟩ : ∃ k : Nat, x = k := ⟨x.toNat, by omega⟩
        have hk : k < s.F.length := by omega
        have e1 : (decide (0 ≤ (k : Int)) && decide ((k : Int) < (s.F.length : Int))) = true := by simp; omega
        have HE : Bx (s.rdE k = 0 ∧ s.rdL k = lstX X k s0) := ⟨by
          unfold DS.rdE DS.rdL
          rw [h1', e1, hrd k hk]; exact ⟨rfl, rfl⟩⟩
        generalize s.F.length = nn at c0 g3 h3 HRB
        clear hR hS h1 h1' hrd e1
        go_enter Try.func33, Try.ntmps33
        go_wp2_with fail
        refine (rbytes_any g own nn X left power vl k _ HRB.out (by omega)).mono ?_
        rintro e w1 ⟨a9, c9, rfl, h9, hb9⟩
        generalize lstX X k s0 = l9 at h9 HE
        have HL9 : Bx (l9.length = 64) := ⟨h9.len_eq⟩
        go_wp2_with fail
        refine (copy_any a9 64 c9 l9 _ h9 (by decide)).mono ?_
        rintro e w2 ⟨v, rfl, hown, hb2⟩
        have hsz := hb9.size
        have hown2 := owns_base hown hsz
        have hb12 := bstep hb9 hb2
        clear h9 hb9 hb2 hown
        go_wp2
        go_ret2
        exact ⟨_, by rw [HE.out.1]; rfl, by rw [HE.out.2, HL9.out]; exact hown2, hb12⟩
end Go.Proofs.Ytihmfnndnjhpbaa
