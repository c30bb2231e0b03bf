/- A task does some tries. What New makes of operations: a copy, whether one is before itself, those that are done. What New makes of operations: of each place those that are before it. -/
import Derived.Test.YtbjeeefkbmdmfaaTmTry
import Derived.Laws.IdiomStrings
import Derived.Lib.Strings
namespace Go.Proofs.Ytbjeeefkbmdmfaa
open Go.RowKit
set_option linter.unusedVariables false
open Go.MapKept Go.Maps

/-- a task behind so many tries -/
def TgP (D : TD) (k : Nat) (w : World) (vF : Value) (e : Ending) (w' : World) : Prop := ∃ vF', e = .returned (.bool (stopS (tS D) (tP D) (tB D) k)) ∧ (∃ F M kd vO o, TaT D w' vF' k F M kd vO o) ∧ Kept (ownT D vF) w w' ∧ At3 w vF vF'
/-- what holds while it goes -/
structure TgI (D : TD) (w : World) (vF : Value) (k : Nat) (wr : World) (v : Value) : Prop where
  ta : ∃ F M kd vO o, TaT D wr v k F M kd vO o
  kp : Kept (ownT D vF) w wr
  pl : At3 w vF v
section
variable {D : TD} {w : World} {vF : Value} {k : Nat} {F : List Fr} {M : List Ps} {kd : Int} {vO : Value} {o : List Nat}
set_option maxHeartbeats 4000000 in
set_option maxRecDepth 100000 in
theorem go_any (h : TaT D w vF k F M kd vO o) (hk : TDK D) (n : Int) (hn : V64 n) :
    Calls Try.prog 16 #[.pointer (some ⟨D.g, 0, none⟩), .int .i64 n] w (TgP D (goF (tS D) (tP D) (tB D) n.toNat k) w vF) := by
  have HDK := Bx.mk hk
  have HI0 : Bx (TgI D w vF k w vF) := ⟨⟨⟨_, _, _, _, _, h⟩, Kept.refl _ _, At3.refl _ _⟩⟩
  obtain ⟨K, HK⟩ : ∃ K, Bx (goF (tS D) (tP D) (tB D) n.toNat k = K) := ⟨_, ⟨rfl⟩⟩
  rw [HK.out]
  have HN := Bx.mk hn
  clear h hk hn
  go_enter Try.func16, Try.ntmps16
  go_wp2_with fail
  go_loopw [6] (fun i wr => ∃ (j k' : Nat) (v : Value), i = .int .i64 (j : Nat) ∧ Bx ((j : Int) ≤ max n 0) ∧ Bx (goF (tS D) (tP D) (tB D) (n.toNat - j) k' = K) ∧ Bx (TgI D w vF k' wr v)) (fun i _ => n.toNat - (intOf i).toNat)
  case atStart => exact ⟨0, k, vF, rfl, ⟨by omega⟩, HK, HI0⟩
  case round =>
    clear HI0 HK
    obtain ⟨j, k', v, rfl, HJ, HG, HI⟩ := hrel
    obtain ⟨F', M', kd', vO', o', hA⟩ := HI.out.ta
    have HA := Bx.mk hA
    clear hA
    by_cases hlt : (j : Int) < n
    · go_wp2_with fail
      refine (runs_any HA.out.tm).mono ?_
      rintro e w1 ⟨rfl, hw1⟩
      subst hw1
      rw [HA.out.runs]
      cases hs : stopS (tS D) (tP D) (tB D) k' with
      | true =>
        have HE : Bx (K = k') := ⟨by rw [← HG.out]; exact go_stop hs⟩
        clear hs
        go_wp2_with fail
        refine (over_any HA.out.tm).mono ?_
        rintro e w2 ⟨rfl, hw2⟩
        subst hw2
        rw [HA.out.over]
        obtain ⟨b, HBB⟩ : ∃ b, Bx (stopS (tS D) (tP D) (tB D) k' = b) := ⟨_, ⟨rfl⟩⟩
        rw [HBB.out]
        go_wp2_with fail
        go_ret
        exact ⟨v, by rw [HE.out, HBB.out]; rfl, ⟨_, _, _, _, _, by rw [HE.out]; exact HA.out⟩, HI.out.kp, HI.out.pl⟩
      | false =>
        have HE : Bx (goF (tS D) (tP D) (tB D) (n.toNat - (j + 1)) (k' + 1) = K) := ⟨by
          rw [← HG.out, show n.toNat - j = (n.toNat - (j + 1)) + 1 by omega]
          exact (go_one hs).symm⟩
        have HS := Bx.mk hs
        clear hs
        go_wp2_with fail
        refine (try_any HA.out HDK.out HS.out).mono ?_
        rintro e w2 ⟨v2, rfl, hta, hkp, hpl⟩
        have HI2 : Bx (TgI D w vF (k' + 1) w2 v2) := ⟨⟨hta, kept_on HI.out.kp hkp HI.out.pl, HI.out.pl.trans hpl HI.out.kp.size⟩⟩
        have HJ2 : Bx (((j + 1 : Nat) : Int) ≤ max n 0) := ⟨by omega⟩
        have hjb : (j : Int) ≤ 9223372036854775806 := by have := HN.out; unfold V64 at this; omega
        clear hta hkp hpl HI HA
        go_wp2_with fail
        go_roundw
        case rel => exact ⟨j + 1, k' + 1, v2, by go_num, HJ2, HE, HI2⟩
        case measure => simp [intOf]; omega
    · have HE : Bx (K = k') := ⟨by rw [← HG.out, show n.toNat - j = 0 by omega]; rfl⟩
      go_wp2_with fail
      refine (over_any HA.out.tm).mono ?_
      rintro e w2 ⟨rfl, hw2⟩
      subst hw2
      rw [HA.out.over]
      obtain ⟨b, HBB⟩ : ∃ b, Bx (stopS (tS D) (tP D) (tB D) k' = b) := ⟨_, ⟨rfl⟩⟩
      rw [HBB.out]
      go_wp2_with fail
      go_ret
      exact ⟨v, by rw [HE.out, HBB.out]; rfl, ⟨_, _, _, _, _, by rw [HE.out]; exact HA.out⟩, HI.out.kp, HI.out.pl⟩
end
end Go.Proofs.Ytbjeeefkbmdmfaa
namespace Go.Proofs.Ytbjeeefkbmdmfaa
open Go.RowKit
set_option linter.unusedVariables false

set_option maxRecDepth 100000 in
theorem Ls.blk18 {α : Type} {en : α → List Value} {k : Nat} {w : World} {ao : Option Addr} {len cap : Nat} {L : List α} (h : Ls en k w ao len cap L) : ∀ p, ao = some p → 0 < len → p.block < w.heap.size := by
  intro p e hp
  obtain ⟨b, off, e2, hlt, _⟩ := h.spot hp
  rw [e] at e2; cases e2; exact hlt
/-- a set by what is in it -/
def bsF (p : Nat → Bool) : Nat → Nat
  | 0 => 0
  | j + 1 => if p j = true then bsF p j ||| 2 ^ j else bsF p j
set_option maxRecDepth 100000 in
theorem bsF_lt (p : Nat → Bool) : ∀ j, bsF p j < 2 ^ j
  | 0 => Nat.zero_lt_one
  | j + 1 => by
    have h := bsF_lt p j
    have h2 : 2 ^ j < 2 ^ (j + 1) := Nat.pow_lt_pow_right (by decide) (by omega)
    unfold bsF
    split
    · exact Nat.or_lt_two_pow (by omega) h2
    · omega
set_option maxRecDepth 100000 in
theorem bsF_bit (p : Nat → Bool) : ∀ (j i : Nat), i < j → (bsF p j).testBit i = p i
  | 0, i, h => absurd h (Nat.not_lt_zero _)
  | j + 1, i, h => by
    have hlt := bsF_lt p j
    unfold bsF
    by_cases e : i = j
    · subst e
      have h0 : (bsF p i).testBit i = false := Nat.testBit_lt_two_pow hlt
      cases hp : p i with
      | true => rw [if_pos rfl, Nat.testBit_or, Nat.testBit_two_pow_self, h0]; rfl
      | false => rw [if_neg (by decide), h0]
    · have ih := bsF_bit p j i (by omega)
      split
      · rw [Nat.testBit_or, Nat.testBit_two_pow_of_ne (by omega), ih, Bool.or_false]
      · exact ih
set_option maxRecDepth 100000 in
theorem bsF_64 (p : Nat → Bool) {j : Nat} (h : j ≤ 64) : bsF p j < 18446744073709551616 := low64 h (bsF_lt p j)
set_option maxRecDepth 100000 in
theorem Try.infoOq : (Try.prog.info? 35).map (fun i => (i.zero, i.size, i.bytes)) = some (some (.agg #[.int .i64 0, .int .i64 0, .int .i64 0, .bool false, .int .i64 0, .int .i64 0, .int .i64 0]), 7, 56) := by kernel_rfl
set_option maxRecDepth 100000 in
theorem nilOq (w : World) (a : Option Addr) (l c : Nat) : (binOp .eql 23 (.slice a l c) (.slice none 0 0)).run Try.prog w = .ok (.bool a.isNone) w := by
  simp only [binOp]
  simp [run_equal_slice_nil w _ _ a l c Try.underlying23]
set_option maxHeartbeats 4000000 in
set_option maxRecDepth 100000 in
theorem cloneO_some (ad : Addr) (len cap : Nat) (l : List Opr) (w : World) (h : Ls orC 7 w (some ad) len cap l) (hs : len ≤ 1000000) :
    Calls Try.prog 31 #[.slice (some ad) len cap] w fun e w' => ∃ v, e = .returned v ∧ w'.ownsRow w.heap.size 35 7 v len (l.flatMap orC) ∧ Below w.heap.size w w' := by
  obtain ⟨i0, hi, hz0, hz1, hz2⟩ := info_parts Try.infoOq
  have hb0 : Below w.heap.size w (w.alloc (.cells #[] 35)) := (Below.refl _ _).alloc (Nat.le_refl _) _
  have HCE := Bx.mk ((h.below hb0).cells orC_len rfl)
  have HO0 : Bx ((w.alloc (.cells #[] 35)).ownsRow w.heap.size 35 7 (.slice (some ⟨w.heap.size, 0, none⟩) 0 0) 0 []) := ⟨World.ownsRow_lit w #[] 0 (Nat.le_refl _) (by unfold maxLen; omega) rfl⟩
  have HFL : Bx ((l.flatMap orC).length = len * 7) := ⟨by rw [flatE_len orC_len, h.len_eq]⟩
  have HON := Bx.mk (flatE_one orC_one l)
  have HSZ := Bx.mk hb0.size
  have HB0 := Bx.mk hb0
  have hnil := nilOq w (some ad) len cap
  generalize l.flatMap orC = ne at HCE HFL HON
  clear h hb0
  go_enter Try.func31, Try.ntmps31
  go_wp2_with (at_builtin; refine wpList_append_own _ rfl _ _ 23 rfl w.heap.size 35 i0 (.agg #[.int .i64 0, .int .i64 0, .int .i64 0, .bool false, .int .i64 0, .int .i64 0, .int .i64 0]) 7 56 Try.underlying23 hi hz0 hz1 hz2 rfl (by decide) _ 0 [] rfl HO0.out ad len cap ne rfl HFL.out HCE.out HON.out ?c3 ?c4 HSZ.out ?_)
  case c3 => unfold maxLen; omega
  case c4 => omega
  intro v1 w1 ho1 hg1 _
  have HO1 := Bx.mk ho1
  have HB1 : Bx (Below w.heap.size w w1) := ⟨HB0.out.grown hg1 HSZ.out (by intro k hk; cases hk; exact Nat.le_refl _)⟩
  clear ho1 hg1 hi hz0 hz1 hz2
  go_wp2_with fail
  go_ret
  exact ⟨_, rfl, HO1.out, HB1.out⟩
set_option maxHeartbeats 4000000 in
set_option maxRecDepth 100000 in
theorem cloneO_none (w : World) :
    Calls Try.prog 31 #[.slice none 0 0] w fun e w' => e = .returned (.slice none 0 0) ∧ w' = w := by
  have hnil := nilOq w none 0 0
  go_enter Try.func31, Try.ntmps31
  go_wp2_with fail
  go_ret
  exact ⟨rfl, rfl⟩
set_option maxRecDepth 100000 in
/-- a copy of it, new -/
theorem cloneO_any (a : Option Addr) (len cap : Nat) (l : List Opr) (w : World) (h : Ls orC 7 w a len cap l) (hs : len ≤ 1000000) :
    Calls Try.prog 31 #[.slice a len cap] w fun e w' => ∃ v, e = .returned v ∧ w'.ownsRow w.heap.size 35 7 v len (l.flatMap orC) ∧ Below w.heap.size w w' := by
  cases a with
  | some ad => exact cloneO_some ad len cap l w h hs
  | none =>
    have h0 := h.nil rfl
    have h1 := h.le_cap
    obtain rfl : cap = 0 := h0
    obtain rfl : len = 0 := by omega
    obtain rfl : l = [] := List.eq_nil_of_length_eq_zero h.len_eq
    refine (cloneO_none w).mono ?_
    rintro e w1 ⟨rfl, rfl⟩
    exact ⟨_, rfl, World.ownsRow_nil _ _ _ _, Below.refl _ _⟩
set_option maxRecDepth 100000 in
theorem Try.infoNq : (Try.prog.info? 3).map (fun i => (i.zero, i.size, i.bytes)) = some (some (.int .i64 0), 1, 8) := by kernel_rfl
set_option maxRecDepth 100000 in
theorem nilNq (w : World) (a : Option Addr) (l c : Nat) : (binOp .eql 37 (.slice a l c) (.slice none 0 0)).run Try.prog w = .ok (.bool a.isNone) w := by
  simp only [binOp]
  simp [run_equal_slice_nil w _ _ a l c Try.underlying37]
set_option maxHeartbeats 4000000 in
set_option maxRecDepth 100000 in
theorem cloneN_some (ad : Addr) (len cap : Nat) (l : List Int) (w : World) (h : Ls ivC 1 w (some ad) len cap l) (hs : len ≤ 1000000) :
    Calls Try.prog 41 #[.slice (some ad) len cap] w fun e w' => ∃ v, e = .returned v ∧ w'.ownsRow w.heap.size 3 1 v len (l.flatMap ivC) ∧ Below w.heap.size w w' := by
  obtain ⟨i0, hi, hz0, hz1, hz2⟩ := info_parts Try.infoNq
  have hb0 : Below w.heap.size w (w.alloc (.cells #[] 3)) := (Below.refl _ _).alloc (Nat.le_refl _) _
  have HCE := Bx.mk ((h.below hb0).cells ivC_len rfl)
  have HO0 : Bx ((w.alloc (.cells #[] 3)).ownsRow w.heap.size 3 1 (.slice (some ⟨w.heap.size, 0, none⟩) 0 0) 0 []) := ⟨World.ownsRow_lit w #[] 0 (Nat.le_refl _) (by unfold maxLen; omega) rfl⟩
  have HFL : Bx ((l.flatMap ivC).length = len * 1) := ⟨by rw [flatE_len ivC_len, h.len_eq]⟩
  have HON := Bx.mk (flatE_one ivC_one l)
  have HSZ := Bx.mk hb0.size
  have HB0 := Bx.mk hb0
  have hnil := nilNq w (some ad) len cap
  generalize l.flatMap ivC = ne at HCE HFL HON
  clear h hb0
  go_enter Try.func41, Try.ntmps41
  go_wp2_with (at_builtin; refine wpList_append_own _ rfl _ _ 37 rfl w.heap.size 3 i0 (.int .i64 0) 1 8 Try.underlying37 hi hz0 hz1 hz2 rfl (by decide) _ 0 [] rfl HO0.out ad len cap ne rfl HFL.out HCE.out HON.out ?c3 ?c4 HSZ.out ?_)
  case c3 => unfold maxLen; omega
  case c4 => omega
  intro v1 w1 ho1 hg1 _
  have HO1 := Bx.mk ho1
  have HB1 : Bx (Below w.heap.size w w1) := ⟨HB0.out.grown hg1 HSZ.out (by intro k hk; cases hk; exact Nat.le_refl _)⟩
  clear ho1 hg1 hi hz0 hz1 hz2
  go_wp2_with fail
  go_ret
  exact ⟨_, rfl, HO1.out, HB1.out⟩
set_option maxHeartbeats 4000000 in
set_option maxRecDepth 100000 in
theorem cloneN_none (w : World) :
    Calls Try.prog 41 #[.slice none 0 0] w fun e w' => e = .returned (.slice none 0 0) ∧ w' = w := by
  have hnil := nilNq w none 0 0
  go_enter Try.func41, Try.ntmps41
  go_wp2_with fail
  go_ret
  exact ⟨rfl, rfl⟩
set_option maxRecDepth 100000 in
/-- a copy of it, new -/
theorem cloneN_any (a : Option Addr) (len cap : Nat) (l : List Int) (w : World) (h : Ls ivC 1 w a len cap l) (hs : len ≤ 1000000) :
    Calls Try.prog 41 #[.slice a len cap] w fun e w' => ∃ v, e = .returned v ∧ w'.ownsRow w.heap.size 3 1 v len (l.flatMap ivC) ∧ Below w.heap.size w w' := by
  cases a with
  | some ad => exact cloneN_some ad len cap l w h hs
  | none =>
    have h0 := h.nil rfl
    have h1 := h.le_cap
    obtain rfl : cap = 0 := h0
    obtain rfl : len = 0 := by omega
    obtain rfl : l = [] := List.eq_nil_of_length_eq_zero h.len_eq
    refine (cloneN_none w).mono ?_
    rintro e w1 ⟨rfl, rfl⟩
    exact ⟨_, rfl, World.ownsRow_nil _ _ _ _, Below.refl _ _⟩
set_option maxHeartbeats 1000000 in
theorem itself_any (a : Opr) (w : World) :
    Calls Try.prog 30 #[.agg #[.int .i64 a.c, .int .i64 a.o, .int .i64 a.a, .bool a.d, .int .i64 a.r, .int .i64 a.f, .int .i64 a.t]] w fun e w' => e = .returned (.bool (befO a a)) ∧ Below w.heap.size w w' := by
  have HB : Bx (Below w.heap.size w (w.alloc (.cells #[.int .i64 a.c, .int .i64 a.o, .int .i64 a.a, .bool a.d, .int .i64 a.r, .int .i64 a.f, .int .i64 a.t] 35))) := ⟨(Below.refl _ _).alloc (Nat.le_refl _) _⟩
  go_enter Try.func30, Try.ntmps30
  go_wp2_with fail
  refine (before_any a a _).mono ?_
  rintro e w1 ⟨rfl, hb1⟩
  have HB1 := Bx.mk (bstep HB.out hb1)
  obtain ⟨b, HBB⟩ : ∃ b, Bx (befO a a = b) := ⟨_, ⟨rfl⟩⟩
  rw [HBB.out]
  clear hb1
  go_wp2_with fail
  go_ret
  exact ⟨by rw [HBB.out]; rfl, HB1.out⟩
/-- where one stands, or nowhere -/
def IxP (ops : List Opr) (w : World) (e : Ending) (w' : World) : Prop := ∃ r : Int, e = .returned (.int .i64 r) ∧ (0 ≤ r ↔ (List.range ops.length).any (fun i => befO (opN ops i) (opN ops i)) = true) ∧ Below w.heap.size w w'
set_option maxHeartbeats 4000000 in
set_option maxRecDepth 100000 in
theorem index18_any (a : Option Addr) (n c : Nat) (ops : List Opr) (w : World) (h : Ors w a n c ops) :
    Calls Try.prog 50 #[.slice a n c, .func (.func 30) #[] #[]] w (IxP ops w) := by
  have HL := Bx.mk h
  have HLEN : Bx (ops.length = n) := ⟨h.len_eq⟩
  have hcl := h.le_cap
  have hcm := h.cap_le
  unfold maxLen at hcm
  clear h
  go_enter Try.func50, Try.ntmps50
  go_wp2_with fail
  go_loopw [8] (fun i wr => ∃ k : Nat, k ≤ n ∧ i = .int .i64 k ∧ Bx (Below w.heap.size w wr) ∧ Bx (∀ j, j < k → befO (opN ops j) (opN ops j) = false)) (fun i _ => n - (intOf i).toNat)
  case atStart => exact ⟨0, Nat.zero_le _, rfl, ⟨Below.refl _ _⟩, ⟨fun j hj => by omega⟩⟩
  case round =>
    obtain ⟨k, hk, rfl, HB, HA⟩ := hrel
    by_cases hlt : k < n
    · have hkI : (k : Int) < (n : Int) := by omega
      obtain ⟨b, off, rfl, hbl, h0, h1, h2, h3, h4, h5, h6⟩ := (HL.out.below HB.out).or k hlt
      obtain ⟨X, HX⟩ : ∃ X, Bx (ops.getD k op0 = X) := ⟨_, ⟨rfl⟩⟩
      rw [HX.out] at h0 h1 h2 h3 h4 h5 h6
      go_wp2_with fail
      refine (itself_any X _).mono ?_
      rintro e w2 ⟨rfl, hb2⟩
      have HB2 := Bx.mk (bstep HB.out hb2)
      clear hb2 h0 h1 h2 h3 h4 h5 h6
      cases hq : befO X X with
      | true =>
        have HF : Bx ((List.range ops.length).any (fun i => befO (opN ops i) (opN ops i)) = true) := ⟨lin_bad (i := k) (by rw [HLEN.out]; exact hlt) (by unfold opN; rw [HX.out]; exact hq)⟩
        clear hq
        go_wp2_with fail
        go_ret
        exact ⟨k, rfl, ⟨fun _ => HF.out, fun _ => by omega⟩, HB2.out⟩
      | false =>
        have HA2 : Bx (∀ j, j < k + 1 → befO (opN ops j) (opN ops j) = false) := ⟨fun j hj => by
          by_cases e : j = k
          · subst e; unfold opN; rw [HX.out]; exact hq
          · exact HA.out j (by omega)⟩
        clear hq
        go_wp2_with fail
        go_roundw
        case rel => exact ⟨k + 1, by omega, by go_num, HB2, HA2⟩
        case measure => simp [intOf]; omega
    · have hkI : ¬ (k : Int) < (n : Int) := by omega
      have HF : Bx ((List.range ops.length).any (fun i => befO (opN ops i) (opN ops i)) = false) := ⟨lin_good fun i hi => HA.out i (by rw [HLEN.out] at hi; omega)⟩
      go_wp2_with fail
      go_ret
      exact ⟨-1, rfl, ⟨fun h => absurd h (by omega), fun h => by rw [HF.out] at h; cases h⟩, HB.out⟩
set_option maxHeartbeats 1000000 in
theorem contains18_any (a : Option Addr) (n c : Nat) (ops : List Opr) (w : World) (h : Ors w a n c ops) :
    Calls Try.prog 29 #[.slice a n c, .func (.func 30) #[] #[]] w fun e w' => e = .returned (.bool ((List.range ops.length).any (fun i => befO (opN ops i) (opN ops i)))) ∧ Below w.heap.size w w' := by
  obtain ⟨b, HBB⟩ : ∃ b, Bx ((List.range ops.length).any (fun i => befO (opN ops i) (opN ops i)) = b) := ⟨_, ⟨rfl⟩⟩
  have H := Bx.mk h
  rw [HBB.out]
  clear h
  go_enter Try.func29, Try.ntmps29
  go_wp2_with fail
  refine (index18_any a n c ops _ H.out).mono ?_
  rintro e w2 ⟨r, rfl, hr, hb2⟩
  have HB2 := Bx.mk hb2
  rw [HBB.out] at hr
  cases b with
  | true =>
    have hd : decide (0 ≤ r) = true := decide_eq_true (hr.2 rfl)
    have hd2 : r ≥ 0 := hr.2 rfl
    clear hr hb2
    go_wp2_with fail
    go_ret
    exact ⟨rfl, HB2.out⟩
  | false =>
    have hd2 : ¬ r ≥ 0 := fun h => by cases hr.1 h
    have hd : decide (0 ≤ r) = false := decide_eq_false hd2
    clear hr hb2
    go_wp2_with fail
    go_ret
    exact ⟨rfl, HB2.out⟩
/-- those that are done -/
def dnF (ops : List Opr) : Nat → Bool := fun i => (opN ops i).d
set_option maxHeartbeats 4000000 in
set_option maxRecDepth 100000 in
theorem done18_any (a : Option Addr) (n c : Nat) (ops : List Opr) (w : World) (h : Ors w a n c ops) (hn : n ≤ 64) :
    Calls Try.prog 32 #[.slice a n c] w fun e w' => e = .returned (.int .u64 (bsF (dnF ops) n : Nat)) ∧ Below w.heap.size w w' := by
  have HL := Bx.mk h
  clear h
  go_enter Try.func32, Try.ntmps32
  go_wp2_with fail
  go_loopw [3, 8] (fun s i wr => ∃ k : Nat, k ≤ n ∧ i = .int .i64 k ∧ s = .int .u64 (bsF (dnF ops) k : Nat) ∧ Bx (Below w.heap.size w wr)) (fun _ i _ => n - (intOf i).toNat)
  case atStart => exact ⟨0, Nat.zero_le _, rfl, rfl, ⟨Below.refl _ _⟩⟩
  case round =>
    obtain ⟨k, hk, rfl, rfl, HB⟩ := hrel
    obtain ⟨y, HY⟩ : ∃ y, Bx (bsF (dnF ops) k = y) := ⟨_, ⟨rfl⟩⟩
    rw [HY.out]
    by_cases hlt : k < n
    · have hkI : (k : Int) < (n : Int) := by omega
      obtain ⟨b, off, rfl, hbl, h0, h1, h2, h3, h4, h5, h6⟩ := (HL.out.below HB.out).or k hlt
      obtain ⟨X, HX⟩ : ∃ X, Bx (ops.getD k op0 = X) := ⟨_, ⟨rfl⟩⟩
      rw [HX.out] at h0 h1 h2 h3 h4 h5 h6
      have HY64 : Bx (y < 18446744073709551616) := ⟨by rw [← HY.out]; exact bsF_64 _ (by omega)⟩
      obtain ⟨xc, xo, xa, xd, xr, xf, xt⟩ := X
      simp only at h0 h1 h2 h3 h4 h5 h6
      have HB2 : Bx (Below w.heap.size w (wr.alloc (.cells #[.int .i64 xc, .int .i64 xo, .int .i64 xa, .bool xd, .int .i64 xr, .int .i64 xf, .int .i64 xt] 35))) := ⟨bstep HB.out ((Below.refl _ _).alloc (Nat.le_refl _) _)⟩
      cases xd with
      | false =>
        have HS : Bx (bsF (dnF ops) (k + 1) = y) := ⟨by unfold bsF; rw [if_neg (by unfold dnF opN; rw [HX.out]; exact fun e => by cases e), HY.out]⟩
        go_wp2_with fail
        go_roundw
        case rel => exact ⟨k + 1, by omega, by go_num, by rw [HS.out], HB2⟩
        case measure => simp [intOf]; omega
      | true =>
        have HS : Bx (bsF (dnF ops) (k + 1) = y ||| 2 ^ k) := ⟨by unfold bsF; rw [if_pos (by unfold dnF opN; rw [HX.out]), HY.out]⟩
        go_wp2_with fail
        refine (with_any y k (by omega) HY64.out _).mono ?_
        rintro e w2 ⟨rfl, hw2⟩
        subst hw2
        obtain ⟨y2, HY2⟩ : ∃ y2 : Nat, Bx (y ||| 2 ^ k = y2) := ⟨_, ⟨rfl⟩⟩
        rw [HY2.out] at HS ⊢
        go_wp2_with fail
        go_roundw
        case rel => exact ⟨k + 1, by omega, by go_num, by rw [HS.out], HB2⟩
        case measure => simp [intOf]; omega
    · have hkI : ¬ (k : Int) < (n : Int) := by omega
      obtain rfl : k = n := by omega
      go_wp2_with fail
      go_ret
      exact ⟨by rw [HY.out]; rfl, HB.out⟩
end Go.Proofs.Ytbjeeefkbmdmfaa
namespace Go.Proofs.Ytbjeeefkbmdmfaa
open Go.RowKit
set_option linter.unusedVariables false

/-- those before a place, as far as they were looked at -/
def ahN (ops : List Opr) (i k : Nat) : Nat := bsF (fun q => befO (opN ops q) (opN ops i)) k
def AhL (ops : List Opr) (n j k : Nat) : List Nat := (List.range n).map fun i => if i < j then ahN ops i n else if i = j then ahN ops i k else 0
set_option maxRecDepth 100000 in
theorem AhL_len (ops : List Opr) (n j k : Nat) : (AhL ops n j k).length = n := by simp [AhL]
set_option maxRecDepth 100000 in
theorem AhL_get {ops : List Opr} {n j k i : Nat} (hi : i < n) : (AhL ops n j k)[i]? = some (if i < j then ahN ops i n else if i = j then ahN ops i k else 0) := by
  unfold AhL; rw [List.getElem?_map, List.getElem?_range hi]; rfl
set_option maxRecDepth 100000 in
theorem AhL_next (ops : List Opr) (n j : Nat) : AhL ops n j n = AhL ops n (j + 1) 0 := by
  refine List.ext_getElem? fun i => ?_
  by_cases hi : i < n
  · rw [AhL_get hi, AhL_get hi]
    congr 1
    by_cases h1 : i < j
    · rw [if_pos h1, if_pos (by omega)]
    · by_cases h2 : i = j
      · rw [if_neg h1, if_pos h2, if_pos (by omega)]
      · rw [if_neg h1, if_neg h2, if_neg (by omega)]
        by_cases h3 : i = j + 1
        · rw [if_pos h3]; rfl
        · rw [if_neg h3]
  · rw [List.getElem?_eq_none (by rw [AhL_len]; omega), List.getElem?_eq_none (by rw [AhL_len]; omega)]
set_option maxRecDepth 100000 in
theorem AhL_zero (ops : List Opr) (n : Nat) : AhL ops n 0 0 = List.replicate n 0 := by
  refine List.ext_getElem? fun i => ?_
  by_cases hi : i < n
  · rw [AhL_get hi, List.getElem?_replicate, if_pos hi]
    congr 1
    by_cases h2 : i = 0
    · rw [if_neg (by omega), if_pos h2]; rfl
    · rw [if_neg (by omega), if_neg h2]
  · rw [List.getElem?_eq_none (by rw [AhL_len]; omega), List.getElem?_eq_none (by rw [List.length_replicate]; omega)]
set_option maxRecDepth 100000 in
theorem AhL_no {ops : List Opr} {n j k : Nat} (h : befO (opN ops k) (opN ops j) = false) : AhL ops n j (k + 1) = AhL ops n j k := by
  refine List.ext_getElem? fun i => ?_
  by_cases hi : i < n
  · rw [AhL_get hi, AhL_get hi]
    congr 1
    by_cases h2 : i = j
    · subst h2
      simp only [Nat.lt_irrefl, if_false, if_true]
      unfold ahN
      conv => lhs; unfold bsF
      rw [if_neg (by rw [h]; decide)]
    · rw [if_neg h2, if_neg h2]
  · rw [List.getElem?_eq_none (by rw [AhL_len]; omega), List.getElem?_eq_none (by rw [AhL_len]; omega)]
set_option maxRecDepth 100000 in
theorem AhL_yes {ops : List Opr} {n j k : Nat} (hj : j < n) (h : befO (opN ops k) (opN ops j) = true) : (AhL ops n j k).set j (ahN ops j k ||| 2 ^ k) = AhL ops n j (k + 1) := by
  refine List.ext_getElem? fun i => ?_
  by_cases hi : i < n
  · by_cases h2 : i = j
    · subst h2
      rw [List.getElem?_set_self (by rw [AhL_len]; exact hi), AhL_get hi, if_neg (by omega), if_pos rfl]
      congr 1
      unfold ahN
      conv => rhs; unfold bsF
      rw [if_pos h]
    · rw [List.getElem?_set_ne (fun e => h2 e.symm), AhL_get hi, AhL_get hi, if_neg h2, if_neg h2]
  · rw [List.getElem?_eq_none (by rw [List.length_set, AhL_len]; omega), List.getElem?_eq_none (by rw [AhL_len]; omega)]
set_option maxRecDepth 100000 in
theorem se_map (D : List Nat) : D.flatMap seC = D.map (fun x : Nat => Value.int .u64 (x : Int)) := by
  induction D with
  | nil => rfl
  | cons d t ih => rw [List.flatMap_cons, ih]; rfl
set_option maxRecDepth 100000 in
theorem se_set (D : List Nat) (j x : Nat) : (D.flatMap seC).set j (.int .u64 (x : Int)) = (D.set j x).flatMap seC := by rw [se_map, se_map, List.map_set]
set_option maxRecDepth 100000 in
theorem mk_se (n : Nat) : (madeCells (Value.int .u64 0).cells (n * 1)).toList = (List.replicate n (0 : Nat)).flatMap seC := by
  rw [se_map, List.map_replicate]
  apply List.ext_getElem?
  intro i
  by_cases hi : i < n
  · rw [List.getElem?_replicate, if_pos hi]; simp [madeCells, Value.cells, hi, Nat.mod_one]
  · rw [List.getElem?_eq_none (by rw [Array.length_toList, size_madeCells]; omega), List.getElem?_replicate, if_neg hi]
set_option maxRecDepth 100000 in
theorem Try.infoSet : (Try.prog.info? 60).map (fun i => (i.zero, i.size, i.bytes)) = some (some (.int .u64 0), 1, 8) := by kernel_rfl
/-- what is made -/
def AhP (ops : List Opr) (n : Nat) (w : World) (e : Ending) (w' : World) : Prop := ∃ gL, e = .returned (.slice (some ⟨gL, 0, none⟩) n n) ∧ w.heap.size ≤ gL ∧ w'.ownsRow w.heap.size 60 1 (.slice (some ⟨gL, 0, none⟩) n n) n ((AhL ops n n 0).flatMap seC) ∧ Below w.heap.size w w'
/-- what holds while it is made -/
structure AhI (ops : List Opr) (n : Nat) (w : World) (gL j k : Nat) (wr : World) : Prop where
  ow : wr.ownsRow w.heap.size 60 1 (.slice (some ⟨gL, 0, none⟩) n n) n ((AhL ops n j k).flatMap seC)
  bl : Below w.heap.size w wr
set_option maxRecDepth 100000 in
theorem AhI.below {ops : List Opr} {n : Nat} {w wr w' : World} {gL j k : Nat} (h : AhI ops n w gL j k wr) (hb : Below wr.heap.size wr w') : AhI ops n w gL j k w' := ⟨owns_below h.ow hb, bstep h.bl hb⟩
section
variable {ops : List Opr} {n : Nat} {w wr : World} {gL j k : Nat}
set_option maxRecDepth 100000 in
theorem AhI.lt (h : AhI ops n w gL j k wr) : gL < wr.heap.size := (h.ow.lt gL rfl).2
set_option maxRecDepth 100000 in
theorem AhI.cell (h : AhI ops n w gL j k wr) (hj : j < n) : wr.cell? ⟨gL, j, none⟩ = some (.int .u64 (ahN ops j k : Nat)) := by
  rw [World.ownsRow.cellAt h.ow j (by omega), se_map, List.getElem?_map, AhL_get hj, if_neg (Nat.lt_irrefl _), if_pos rfl]; rfl
set_option maxRecDepth 100000 in
theorem AhI.froz (h : AhI ops n w gL j k wr) (i : Nat) : wr.frozen? ⟨gL, i, none⟩ = false := by
  rcases h.ow.2 with ⟨e, _⟩ | ⟨g', c', cur, e, _, hg, _⟩
  · cases e
  · cases e; exact frozen_of_row wr gL i cur _ hg
set_option maxRecDepth 100000 in
theorem AhI.set (h : AhI ops n w gL j k wr) (hj : j < n) (hb : befO (opN ops k) (opN ops j) = true) : AhI ops n w gL j (k + 1) (wr.setCell ⟨gL, j, none⟩ (.int .u64 ((ahN ops j k ||| 2 ^ k : Nat) : Int))) := by
  have h4 := (World.ownsRow.stored h.ow j (.int .u64 ((ahN ops j k ||| 2 ^ k : Nat) : Int))).1
  rw [se_set, AhL_yes hj hb] at h4
  exact ⟨h4, h.bl.setCell (p := ⟨gL, j, none⟩) (h.ow.lt gL rfl).1 _⟩
end
set_option maxHeartbeats 4000000 in
set_option maxRecDepth 100000 in
theorem ahead18_any (a : Option Addr) (n c : Nat) (ops : List Opr) (w : World) (h : Ors w a n c ops) (hn : n ≤ 64) :
    Calls Try.prog 33 #[.slice a n c] w (AhP ops n w) := by
  have HL := Bx.mk h
  have HLT := Bx.mk (fun p e hp => Ls.blk18 h p e hp)
  obtain ⟨i0, hi, hz0, hz1, hz2⟩ := info_parts Try.infoSet
  clear h
  go_enter Try.func33, Try.ntmps33
  go_wp2_with (refine wpList_make_full _ rfl _ _ 62 rfl w.heap.size 60 i0 (.int .u64 0) 1 Try.underlying62 hi hz0 hz1 .i64 .i64 n n n rfl rfl rfl rfl (by rw [hz2]; omega) (by unfold maxLen; omega) (Nat.le_refl _) (fun w0 h1 h2 => ?_))
  rw [mk_se, ← AhL_zero ops] at h1
  have HI0 : Bx (AhI ops n w w.heap.size 0 0 w0) := ⟨⟨h1, (Below.refl _ _).grown h2 (Nat.le_refl _) (by intro k hk; cases hk)⟩⟩
  obtain ⟨gL, HGL⟩ : ∃ gL, Bx (w.heap.size = gL) := ⟨_, ⟨rfl⟩⟩
  rw [HGL.out] at HI0 ⊢
  clear h1 h2 hi hz0 hz1 hz2
  go_wp2_with fail
  go_loopw [13] (fun i wr => ∃ j : Nat, j ≤ n ∧ i = .int .i64 j ∧ Bx (AhI ops n w gL j 0 wr)) (fun i _ => n - (intOf i).toNat)
  case atStart => exact ⟨0, Nat.zero_le _, rfl, HI0⟩
  case round =>
    clear HI0
    obtain ⟨j, hj, rfl, HI⟩ := hrel
    by_cases hlt : j < n
    · have hjI : (j : Int) < (n : Int) := by omega
      obtain ⟨b, off, rfl, hbl, h0, h1, h2, h3, h4, h5, h6⟩ := (HL.out.below HI.out.bl).or j hlt
      obtain ⟨X, HX⟩ : ∃ X, Bx (ops.getD j op0 = X) := ⟨_, ⟨rfl⟩⟩
      rw [HX.out] at h0 h1 h2 h3 h4 h5 h6
      have hb5 : Below wr.heap.size wr (wr.alloc (.cells #[.int .i64 X.c, .int .i64 X.o, .int .i64 X.a, .bool X.d, .int .i64 X.r, .int .i64 X.f, .int .i64 X.t] 35)) := (Below.refl _ _).alloc (Nat.le_refl _) _
      have HR5 := Bx.mk (heap_alloc_new wr (.cells #[.int .i64 X.c, .int .i64 X.o, .int .i64 X.a, .bool X.d, .int .i64 X.r, .int .i64 X.f, .int .i64 X.t] 35))
      have HI5 := Bx.mk (HI.out.below hb5)
      have HG5 : Bx (gL ≠ wr.heap.size) := ⟨by have := HI.out.lt; omega⟩
      clear hb5 HI
      go_upto_region 5 with fail
      generalize wr.alloc (.cells #[.int .i64 X.c, .int .i64 X.o, .int .i64 X.a, .bool X.d, .int .i64 X.r, .int .i64 X.f, .int .i64 X.t] 35) = w5 at HR5 HI5 ⊢
      generalize wr.heap.size = g5 at HR5 HG5 ⊢
      clear h0 h1 h2 h3 h4 h5 h6 hbl
      go_wp2_with fail
      go_loopw [20] (fun i wr => ∃ k : Nat, k ≤ n ∧ i = .int .i64 k ∧ Bx (AhI ops n w gL j k wr) ∧ Bx (wr.heap[g5]? = some (.cells #[.int .i64 X.c, .int .i64 X.o, .int .i64 X.a, .bool X.d, .int .i64 X.r, .int .i64 X.f, .int .i64 X.t] 35 (0, 0)))) (fun i _ => n - (intOf i).toNat)
      case atStart => exact ⟨0, Nat.zero_le _, rfl, HI5, HR5⟩
      case round =>
        clear HI5 HR5
        obtain ⟨k, hk, rfl, HI, HR⟩ := hrel
        by_cases hlk : k < n
        · have hkI : (k : Int) < (n : Int) := by omega
          obtain ⟨b', off', e, hbl, h0, h1, h2, h3, h4, h5, h6⟩ := (HL.out.below HI.out.bl).or k hlk
          cases e
          obtain ⟨Y, HY⟩ : ∃ Y, Bx (ops.getD k op0 = Y) := ⟨_, ⟨rfl⟩⟩
          rw [HY.out] at h0 h1 h2 h3 h4 h5 h6
          have hb7 : Below wr.heap.size wr (wr.alloc (.cells #[.int .i64 Y.c, .int .i64 Y.o, .int .i64 Y.a, .bool Y.d, .int .i64 Y.r, .int .i64 Y.f, .int .i64 Y.t] 35)) := (Below.refl _ _).alloc (Nat.le_refl _) _
          have HR7 := Bx.mk (heap_alloc_new wr (.cells #[.int .i64 Y.c, .int .i64 Y.o, .int .i64 Y.a, .bool Y.d, .int .i64 Y.r, .int .i64 Y.f, .int .i64 Y.t] 35))
          have HI7 := Bx.mk (HI.out.below hb7)
          have HRX := Bx.mk (up_row _ _ HR.out hb7)
          clear hb7 HI HR
          go_upto_region 8 with fail
          generalize wr.alloc (.cells #[.int .i64 Y.c, .int .i64 Y.o, .int .i64 Y.a, .bool Y.d, .int .i64 Y.r, .int .i64 Y.f, .int .i64 Y.t] 35) = w7 at HR7 HI7 HRX ⊢
          generalize wr.heap.size = g7 at HR7 ⊢
          clear h0 h1 h2 h3 h4 h5 h6 hbl
          have p0 := cell_of_row _ g5 0 _ _ (0, 0) HRX.out
          have p1 := cell_of_row _ g5 1 _ _ (0, 0) HRX.out
          have p2 := cell_of_row _ g5 2 _ _ (0, 0) HRX.out
          have p3 := cell_of_row _ g5 3 _ _ (0, 0) HRX.out
          have p4 := cell_of_row _ g5 4 _ _ (0, 0) HRX.out
          have p5 := cell_of_row _ g5 5 _ _ (0, 0) HRX.out
          have p6 := cell_of_row _ g5 6 _ _ (0, 0) HRX.out
          have r0 := cell_of_row _ g7 0 _ _ (0, 0) HR7.out
          have r1 := cell_of_row _ g7 1 _ _ (0, 0) HR7.out
          have r2 := cell_of_row _ g7 2 _ _ (0, 0) HR7.out
          have r3 := cell_of_row _ g7 3 _ _ (0, 0) HR7.out
          have r4 := cell_of_row _ g7 4 _ _ (0, 0) HR7.out
          have r5 := cell_of_row _ g7 5 _ _ (0, 0) HR7.out
          have r6 := cell_of_row _ g7 6 _ _ (0, 0) HR7.out
          go_wp2_with fail
          refine (before_any Y X _).mono ?_
          rintro e w8 ⟨rfl, hb8⟩
          have HI8 := Bx.mk (HI7.out.below hb8)
          have HRX8 := Bx.mk (up_row _ _ HRX.out hb8)
          clear hb8 HI7 HRX HR7 p0 p1 p2 p3 p4 p5 p6 r0 r1 r2 r3 r4 r5 r6
          cases hq : befO Y X with
          | false =>
            have HI9 : Bx (AhI ops n w gL j (k + 1) w8) := ⟨⟨by rw [AhL_no (by unfold opN; rw [HY.out, HX.out]; exact hq)]; exact HI8.out.ow, HI8.out.bl⟩⟩
            clear hq
            go_wp2_with fail
            go_roundw
            case rel => exact ⟨k + 1, by omega, by go_num, HI9, HRX8⟩
            case measure => simp [intOf]; omega
          | true =>
            have hc := HI8.out.cell hlt
            have hfz := HI8.out.froz j
            have HSE := Bx.mk (HI8.out.set hlt (by unfold opN; rw [HY.out, HX.out]; exact hq))
            have HY64 : Bx (ahN ops j k < 18446744073709551616) := ⟨bsF_64 _ (by omega)⟩
            obtain ⟨y, HYY⟩ : ∃ y, Bx (ahN ops j k = y) := ⟨_, ⟨rfl⟩⟩
            rw [HYY.out] at hc HSE HY64
            clear hq
            go_wp2_with fail
            refine (with_any y k (by omega) HY64.out _).mono ?_
            rintro e w9 ⟨rfl, hw9⟩
            obtain rfl : w8 = w9 := hw9.symm
            clear hw9
            have HRX9 : Bx ((w8.setCell ⟨gL, j, none⟩ (.int .u64 ((y ||| 2 ^ k : Nat) : Int))).heap[g5]? = some (.cells #[.int .i64 X.c, .int .i64 X.o, .int .i64 X.a, .bool X.d, .int .i64 X.r, .int .i64 X.f, .int .i64 X.t] 35 (0, 0))) := ⟨(heap_setCell_other w8 ⟨gL, j, none⟩ g5 _ (fun e => HG5.out e.symm)).trans HRX8.out⟩
            obtain ⟨y2, HY2⟩ : ∃ y2 : Nat, Bx (y ||| 2 ^ k = y2) := ⟨_, ⟨rfl⟩⟩
            rw [HY2.out] at HSE HRX9 ⊢
            go_wp2_with fail
            go_roundw
            case rel => exact ⟨k + 1, by omega, by go_num, HSE, HRX9⟩
            case measure => simp [intOf]; omega
        · have hkI : ¬ (k : Int) < (n : Int) := by omega
          obtain rfl : k = n := by omega
          have HI9 : Bx (AhI ops k w gL (j + 1) 0 wr) := ⟨⟨by rw [← AhL_next]; exact HI.out.ow, HI.out.bl⟩⟩
          go_wp2_with fail
          go_roundw
          case rel => exact ⟨j + 1, by omega, by go_num, HI9⟩
          case measure => simp [intOf]; omega
    · have hjI : ¬ (j : Int) < (n : Int) := by omega
      obtain rfl : j = n := by omega
      go_wp2_with fail
      go_ret
      exact ⟨gL, rfl, by rw [HGL.out]; exact Nat.le_refl _, HI.out.ow, HI.out.bl⟩
end Go.Proofs.Ytbjeeefkbmdmfaa
