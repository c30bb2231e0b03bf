/- At most so many operations, at most so many numbers, in memory of their own. -/
import Derived.Test.YtckgplemdmgekaaHFew
import Derived.Test.YtckgplemdmgekaaCFew
namespace Go.Proofs.Ytckgplemdmgekaa
open Go.RowKit
set_option linter.unusedVariables false

set_option maxRecDepth 100000 in
theorem Try.infoI17 : (Try.prog.info? 3).map (fun i => (i.zero, i.size, i.bytes)) = some (some (.int .i64 0), 1, 8) := by kernel_rfl
set_option maxHeartbeats 4000000 in
set_option maxRecDepth 100000 in
theorem few17_any (a : Option Addr) (len cap n : Nat) (l : List Opr) (w : World) (h : Ors w a len cap l) (hn : 1 ≤ n) (hn2 : n ≤ 1000000) :
    Calls Try.prog 8 #[.slice a len cap, .int .i64 n] w fun e w' => ∃ v, e = .returned v ∧ w'.ownsRow w.heap.size 38 7 v (l.take n).length ((l.take n).flatMap orC) ∧ Below w.heap.size w w' := by
  obtain ⟨i0, hi, hz0, hz1, hz2⟩ := info_parts Try.infoO
  have hm := Nat.le_trans h.le_cap h.cap_le
  have hcm := h.cap_le
  have hlc := h.le_cap
  have hl := h.len_eq
  unfold maxLen at hm hcm
  cases a with
  | none =>
    have hc0 := h.nil rfl
    obtain rfl : cap = 0 := hc0
    obtain rfl : len = 0 := by omega
    obtain rfl : l = [] := List.eq_nil_of_length_eq_zero hl
    have hn' : ¬ (n : Int) < ((0 : Nat) : Int) := by omega
    go_enter Try.func8, Try.ntmps8
    go_wp2
    go_ret
    exact ⟨_, rfl, by simpa using World.ownsRow_nil _ _ _ _, Below.refl _ _⟩
  | some ad =>
    by_cases hlt : n < len
    · have hb := h.take n (by omega)
      have hcells := hb.cells orC_len rfl
      obtain ⟨b, off, e, _, _⟩ := h.spot (by omega)
      cases e
      have HTL : Bx ((l.take n).length = n) := ⟨by rw [List.length_take]; omega⟩
      have HFL : Bx (((l.take n).flatMap orC).length = n * 7) := ⟨by rw [flatE_len orC_len, HTL.out]⟩
      have HON := Bx.mk (flatE_one orC_one (l.take n))
      rw [HTL.out]
      generalize (l.take n).flatMap orC = ne at hcells HFL HON
      have hnI : (n : Int) < (len : Int) := by omega
      have HCE := Bx.mk hcells
      clear hb hcells HTL hl
      go_enter Try.func8, Try.ntmps8
      go_wp2_with (at_builtin; refine wpList_append_own _ rfl _ _ 23 rfl w.heap.size 38 i0 (.agg #[.int .i64 0, .int .i64 0, .int .i64 0, .bool false, .int .i64 0, .int .i64 0, .int .i64 0]) 7 56 Try.underlying23 hi hz0 hz1 hz2 rfl (by decide) _ 0 [] rfl (World.ownsRow_nil _ _ _ _) ⟨b, off, none⟩ n cap ne rfl HFL.out HCE.out HON.out ?oc3 ?oc4 (Nat.le_refl _) ?_)
      case oc3 => unfold maxLen; omega
      case oc4 => omega
      intro v' w1 hown hgrow _
      have hb1 : Below w.heap.size w w1 := (Below.refl _ _).grown hgrow (Nat.le_refl _) (by intro k hk; cases hk)
      clear hgrow hi hz0 hz1 hz2
      go_wp2
      go_ret
      exact ⟨_, rfl, hown, hb1⟩
    · have hcells := h.cells orC_len rfl
      have HFL : Bx ((l.flatMap orC).length = len * 7) := ⟨by rw [flatE_len orC_len, hl]⟩
      have HON := Bx.mk (flatE_one orC_one l)
      rw [List.take_of_length_le (by omega), hl]
      generalize l.flatMap orC = ne at hcells HFL HON
      have hnI : ¬ (n : Int) < (len : Int) := by omega
      have HCE := Bx.mk hcells
      clear hcells hl
      go_enter Try.func8, Try.ntmps8
      go_wp2_with (at_builtin; refine wpList_append_own _ rfl _ _ 23 rfl w.heap.size 38 i0 (.agg #[.int .i64 0, .int .i64 0, .int .i64 0, .bool false, .int .i64 0, .int .i64 0, .int .i64 0]) 7 56 Try.underlying23 hi hz0 hz1 hz2 rfl (by decide) _ 0 [] rfl (World.ownsRow_nil _ _ _ _) ad len cap ne rfl HFL.out HCE.out HON.out ?od3 ?od4 (Nat.le_refl _) ?_)
      case od3 => unfold maxLen; omega
      case od4 => omega
      intro v' w1 hown hgrow _
      have hb1 : Below w.heap.size w w1 := (Below.refl _ _).grown hgrow (Nat.le_refl _) (by intro k hk; cases hk)
      clear hgrow hi hz0 hz1 hz2
      go_wp2
      go_ret
      exact ⟨_, rfl, hown, hb1⟩
set_option maxHeartbeats 4000000 in
set_option maxRecDepth 100000 in
theorem ints17_any (a : Option Addr) (len cap n : Nat) (l : List Int) (w : World) (h : Ivs w a len cap l) (hn : 1 ≤ n) (hn2 : n ≤ 1000000) :
    Calls Try.prog 9 #[.slice a len cap, .int .i64 n] w fun e w' => ∃ v, e = .returned v ∧ w'.ownsRow w.heap.size 3 1 v (l.take n).length ((l.take n).flatMap ivC) ∧ Below w.heap.size w w' := by
  obtain ⟨i0, hi, hz0, hz1, hz2⟩ := info_parts Try.infoI17
  have hm := Nat.le_trans h.le_cap h.cap_le
  have hcm := h.cap_le
  have hlc := h.le_cap
  have hl := h.len_eq
  unfold maxLen at hm hcm
  cases a with
  | none =>
    have hc0 := h.nil rfl
    obtain rfl : cap = 0 := hc0
    obtain rfl : len = 0 := by omega
    obtain rfl : l = [] := List.eq_nil_of_length_eq_zero hl
    have hn' : ¬ (n : Int) < ((0 : Nat) : Int) := by omega
    go_enter Try.func9, Try.ntmps9
    go_wp2
    go_ret
    exact ⟨_, rfl, by simpa using World.ownsRow_nil _ _ _ _, Below.refl _ _⟩
  | some ad =>
    by_cases hlt : n < len
    · have hb := h.take n (by omega)
      have hcells := hb.cells ivC_len rfl
      obtain ⟨b, off, e, _, _⟩ := h.spot (by omega)
      cases e
      have HTL : Bx ((l.take n).length = n) := ⟨by rw [List.length_take]; omega⟩
      have HFL : Bx (((l.take n).flatMap ivC).length = n * 1) := ⟨by rw [flatE_len ivC_len, HTL.out]⟩
      have HON := Bx.mk (flatE_one ivC_one (l.take n))
      rw [HTL.out]
      generalize (l.take n).flatMap ivC = ne at hcells HFL HON
      have hnI : (n : Int) < (len : Int) := by omega
      have HCE := Bx.mk hcells
      clear hb hcells HTL hl
      go_enter Try.func9, Try.ntmps9
      go_wp2_with (at_builtin; refine wpList_append_own _ rfl _ _ 24 rfl w.heap.size 3 i0 (.int .i64 0) 1 8 Try.underlying24 hi hz0 hz1 hz2 rfl (by decide) _ 0 [] rfl (World.ownsRow_nil _ _ _ _) ⟨b, off, none⟩ n cap ne rfl HFL.out HCE.out HON.out ?ic3 ?ic4 (Nat.le_refl _) ?_)
      case ic3 => unfold maxLen; omega
      case ic4 => omega
      intro v' w1 hown hgrow _
      have hb1 : Below w.heap.size w w1 := (Below.refl _ _).grown hgrow (Nat.le_refl _) (by intro k hk; cases hk)
      clear hgrow hi hz0 hz1 hz2
      go_wp2
      go_ret
      exact ⟨_, rfl, hown, hb1⟩
    · have hcells := h.cells ivC_len rfl
      have HFL : Bx ((l.flatMap ivC).length = len * 1) := ⟨by rw [flatE_len ivC_len, hl]⟩
      have HON := Bx.mk (flatE_one ivC_one l)
      rw [List.take_of_length_le (by omega), hl]
      generalize l.flatMap ivC = ne at hcells HFL HON
      have hnI : ¬ (n : Int) < (len : Int) := by omega
      have HCE := Bx.mk hcells
      clear hcells hl
      go_enter Try.func9, Try.ntmps9
      go_wp2_with (at_builtin; refine wpList_append_own _ rfl _ _ 24 rfl w.heap.size 3 i0 (.int .i64 0) 1 8 Try.underlying24 hi hz0 hz1 hz2 rfl (by decide) _ 0 [] rfl (World.ownsRow_nil _ _ _ _) ad len cap ne rfl HFL.out HCE.out HON.out ?id3 ?id4 (Nat.le_refl _) ?_)
      case id3 => unfold maxLen; omega
      case id4 => omega
      intro v' w1 hown hgrow _
      have hb1 : Below w.heap.size w w1 := (Below.refl _ _).grown hgrow (Nat.le_refl _) (by intro k hk; cases hk)
      clear hgrow hi hz0 hz1 hz2
      go_wp2
      go_ret
      exact ⟨_, rfl, hown, hb1⟩
end Go.Proofs.Ytckgplemdmgekaa
