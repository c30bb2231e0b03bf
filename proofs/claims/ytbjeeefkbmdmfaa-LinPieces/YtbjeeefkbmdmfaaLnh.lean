/- At most so many events, in memory of their own; two lists that are the same. At most so many instructions, in memory of their own; lists that are the same. At most so many operations, at most so many numbers, in memory of their own. -/
import Derived.Test.YtbjeeefkbmdmfaaLnd
import Derived.BigQuiet
namespace Go.Proofs.Ytbjeeefkbmdmfaa
open Go.RowKit
set_option linter.unusedVariables false

set_option maxRecDepth 100000 in
theorem Try.infoO : (Try.prog.info? 35).map (fun i => (i.zero, i.size, i.bytes)) = some (some (.agg #[.int .i64 0, .int .i64 0, .int .i64 0, .bool false, .int .i64 0, .int .i64 0, .int .i64 0]), 7, 56) := by kernel_rfl
set_option maxRecDepth 100000 in
theorem op_fields : Try.prog.underlying 35 = some (.struct (Try.prog.fieldsOf 35)) := by
  unfold Program.fieldsOf; rw [Try.underlying35]
set_option maxRecDepth 100000 in
theorem op_eq (c o a r f t : Int) (d : Bool) (w : World) : (Op.equalIn 10000 35 (.agg #[.int .i64 c, .int .i64 o, .int .i64 a, .bool d, .int .i64 r, .int .i64 f, .int .i64 t]) (.agg #[.int .i64 c, .int .i64 o, .int .i64 a, .bool d, .int .i64 r, .int .i64 f, .int .i64 t])).run Try.prog w = .ok true w := by
  rw [show (10000 : Nat) = 9998 + 1 + 1 from rfl, run_equalIn_struct w (9998 + 1) 35 _ _ op_fields (by kernel_rfl)]
  have h1 := fun x => run_equalIn_int (P := Try.prog) w 9998 3 .i64 .i64 x x Try.underlying3
  have h2 := run_equalIn_bool (P := Try.prog) w 9998 4 d d Try.underlying4
  have h3 := fun x => run_equalIn_int (P := Try.prog) w 9998 2 .i64 .i64 x x Try.underlying2
  have p1 := run_part_plain (P := Try.prog) (w := w) (e := 3) (by kernel_rfl) (xs := #[.int .i64 c, .int .i64 o, .int .i64 a, .bool d, .int .i64 r, .int .i64 f, .int .i64 t]) (off := 0) (v := .int .i64 c) rfl
  have p2 := run_part_plain (P := Try.prog) (w := w) (e := 3) (by kernel_rfl) (xs := #[.int .i64 c, .int .i64 o, .int .i64 a, .bool d, .int .i64 r, .int .i64 f, .int .i64 t]) (off := 1) (v := .int .i64 o) rfl
  have p3 := run_part_plain (P := Try.prog) (w := w) (e := 2) (by kernel_rfl) (xs := #[.int .i64 c, .int .i64 o, .int .i64 a, .bool d, .int .i64 r, .int .i64 f, .int .i64 t]) (off := 2) (v := .int .i64 a) rfl
  have p4 := run_part_plain (P := Try.prog) (w := w) (e := 4) (by kernel_rfl) (xs := #[.int .i64 c, .int .i64 o, .int .i64 a, .bool d, .int .i64 r, .int .i64 f, .int .i64 t]) (off := 3) (v := .bool d) rfl
  have p5 := run_part_plain (P := Try.prog) (w := w) (e := 2) (by kernel_rfl) (xs := #[.int .i64 c, .int .i64 o, .int .i64 a, .bool d, .int .i64 r, .int .i64 f, .int .i64 t]) (off := 4) (v := .int .i64 r) rfl
  have p6 := run_part_plain (P := Try.prog) (w := w) (e := 3) (by kernel_rfl) (xs := #[.int .i64 c, .int .i64 o, .int .i64 a, .bool d, .int .i64 r, .int .i64 f, .int .i64 t]) (off := 5) (v := .int .i64 f) rfl
  have p7 := run_part_plain (P := Try.prog) (w := w) (e := 3) (by kernel_rfl) (xs := #[.int .i64 c, .int .i64 o, .int .i64 a, .bool d, .int .i64 r, .int .i64 f, .int .i64 t]) (off := 6) (v := .int .i64 t) rfl
  unfold Program.fieldsOf
  rw [Try.underlying35]
  simp [Op.eqFields, h1, h2, h3, p1, p2, p3, p4, p5, p6, p7]
set_option maxHeartbeats 1000000 in
theorem alike14_yes (a b : Option Addr) (n m c d : Nat) (l : List Opr) (w : World) (ha : Ors w a n c l) (hb : Ors w b m d l) :
    Calls Try.prog 14 #[.slice a n c, .slice b m d] w fun e w' => e = .returned (.bool true) ∧ Below w.heap.size w w' := by
  obtain rfl : n = m := by rw [← ha.len_eq, ← hb.len_eq]
  have H1 := Bx.mk ha
  have H2 := Bx.mk hb
  have hn := Nat.le_trans ha.le_cap ha.cap_le
  unfold maxLen at hn
  have hq : ((n : Int) != (n : Int)) = false := by simp
  clear ha hb
  go_enter Try.func14, Try.ntmps14
  go_wp2_with fail
  go_loopw [5] (fun i wr => ∃ k : Nat, k ≤ n ∧ i = .int .i64 k ∧ Bx (Below w.heap.size w wr)) (fun i _ => n - (intOf i).toNat)
  case atStart => exact ⟨0, Nat.zero_le _, rfl, ⟨Below.refl _ _⟩⟩
  case round =>
    obtain ⟨k, hk, rfl, HB⟩ := hrel
    by_cases hlt : k < n
    · obtain ⟨b1, o1, rfl, _, x0, x1, x2, x3, x4, x5, x6⟩ := (H1.out.below HB.out).or k hlt
      obtain ⟨b2, o2, rfl, _, y0, y1, y2, y3, y4, y5, y6⟩ := (H2.out.below HB.out).or k hlt
      have hki : (k : Int) < (n : Int) := by omega
      generalize l.getD k op0 = x at x0 x1 x2 x3 x4 x5 x6 y0 y1 y2 y3 y4 y5 y6
      obtain ⟨cc, oo, aa, dd, rr, ff, tt⟩ := x
      simp only at x0 x1 x2 x3 x4 x5 x6 y0 y1 y2 y3 y4 y5 y6
      have heq := op_eq cc oo aa rr ff tt dd
      go_wp2_with fail
      go_quiet (fail)
      go_wp2_with fail
      go_roundw
      case rel => exact ⟨k + 1, by omega, by go_num, ⟨below_drewN HB.out _⟩⟩
      case measure => simp [intOf]; omega
    · have hki : ¬ (k : Int) < (n : Int) := by omega
      go_wp2_with fail
      go_ret
      exact ⟨rfl, HB.out⟩
end Go.Proofs.Ytbjeeefkbmdmfaa
namespace Go.Proofs.Ytbjeeefkbmdmfaa
open Go.RowKit
set_option linter.unusedVariables false

set_option maxRecDepth 100000 in
theorem Try.infoN : (Try.prog.info? 77).map (fun i => (i.zero, i.size, i.bytes)) = some (some (.agg #[.int .i64 0, .int .i64 0]), 2, 16) := by kernel_rfl
set_option maxHeartbeats 400000 in
theorem few15_any (a : Option Addr) (len cap : Nat) (l : List Ic) (w : World) (h : Ics w a len cap l) :
    Calls Try.prog 9 #[.slice a len cap] w fun e w' => ∃ v, e = .returned v ∧ w'.ownsRow w.heap.size 77 2 v (l.take 210).length ((l.take 210).flatMap icC) ∧ Below w.heap.size w w' := by
  obtain ⟨i0, hi, hz0, hz1, hz2⟩ := info_parts Try.infoN
  have hm := Nat.le_trans h.le_cap h.cap_le
  have hcm := h.cap_le
  have hlc := h.le_cap
  have hl := h.len_eq
  unfold maxLen at hm hcm
  cases a with
  | none =>
    have hc0 := h.nil rfl
    obtain rfl : cap = 0 := hc0
    obtain rfl : len = 0 := by omega
    obtain rfl : l = [] := List.eq_nil_of_length_eq_zero hl
    go_enter Try.func9, Try.ntmps9
    go_wp2
    go_ret
    exact ⟨_, rfl, by simpa using World.ownsRow_nil _ _ _ _, Below.refl _ _⟩
  | some ad =>
    by_cases hlt : 210 < len
    · have hb := h.take 210 (by omega)
      have hcells := hb.cells icC_len rfl
      obtain ⟨b, off, e, _, _⟩ := h.spot (by omega)
      cases e
      have HTL : Bx ((l.take 210).length = 210) := ⟨by rw [List.length_take]; omega⟩
      have HFL : Bx (((l.take 210).flatMap icC).length = 210 * 2) := ⟨by rw [flatE_len icC_len, HTL.out]⟩
      have HON := Bx.mk (flatE_one icC_one (l.take 210))
      rw [HTL.out]
      generalize (l.take 210).flatMap icC = ne at hcells HFL HON
      have hnI : (210 : Int) < (len : Int) := by omega
      clear hb HTL hl
      have HCE := Bx.mk hcells
      go_enter Try.func9, Try.ntmps9
      go_wp2_with (at_builtin; refine wpList_append_own _ rfl _ _ 22 rfl w.heap.size 77 i0 (.agg #[.int .i64 0, .int .i64 0]) 2 16 Try.underlying22 hi hz0 hz1 hz2 rfl (by decide) _ 0 [] rfl (World.ownsRow_nil _ _ _ _) ⟨b, off, none⟩ 210 cap ne rfl HFL.out HCE.out HON.out ?c3 ?c4 (Nat.le_refl _) ?_)
      case c3 => unfold maxLen; omega
      case c4 => omega
      intro v' w1 hown hgrow _
      have hb1 : Below w.heap.size w w1 := (Below.refl _ _).grown hgrow (Nat.le_refl _) (by intro k hk; cases hk)
      clear hgrow hi hz0 hz1 hz2
      go_wp2
      go_ret
      exact ⟨_, rfl, hown, hb1⟩
    · have hcells := h.cells icC_len rfl
      have HFL : Bx ((l.flatMap icC).length = len * 2) := ⟨by rw [flatE_len icC_len, hl]⟩
      have HON := Bx.mk (flatE_one icC_one l)
      rw [List.take_of_length_le (by omega), hl]
      generalize l.flatMap icC = ne at hcells HFL HON
      have hnI : ¬ (210 : Int) < (len : Int) := by omega
      clear hl
      have HCE := Bx.mk hcells
      go_enter Try.func9, Try.ntmps9
      go_wp2_with (at_builtin; refine wpList_append_own _ rfl _ _ 22 rfl w.heap.size 77 i0 (.agg #[.int .i64 0, .int .i64 0]) 2 16 Try.underlying22 hi hz0 hz1 hz2 rfl (by decide) _ 0 [] rfl (World.ownsRow_nil _ _ _ _) ad len cap ne rfl HFL.out HCE.out HON.out ?d3 ?d4 (Nat.le_refl _) ?_)
      case d3 => unfold maxLen; omega
      case d4 => omega
      intro v' w1 hown hgrow _
      have hb1 : Below w.heap.size w w1 := (Below.refl _ _).grown hgrow (Nat.le_refl _) (by intro k hk; cases hk)
      clear hgrow hi hz0 hz1 hz2
      go_wp2
      go_ret
      exact ⟨_, rfl, hown, hb1⟩
set_option maxRecDepth 100000 in
theorem ins_fields : Try.prog.underlying 77 = some (.struct (Try.prog.fieldsOf 77)) := by
  unfold Program.fieldsOf; rw [Try.underlying77]
set_option maxRecDepth 100000 in
theorem ins_eq (o n : Int) (w : World) : (Op.equalIn 10000 77 (.agg #[.int .i64 o, .int .i64 n]) (.agg #[.int .i64 o, .int .i64 n])).run Try.prog w = .ok true w := by
  rw [show (10000 : Nat) = 9998 + 1 + 1 from rfl, run_equalIn_struct w (9998 + 1) 77 _ _ ins_fields (by kernel_rfl)]
  have h1 := fun x => run_equalIn_int (P := Try.prog) w 9998 3 .i64 .i64 x x Try.underlying3
  have h3 := fun x => run_equalIn_int (P := Try.prog) w 9998 2 .i64 .i64 x x Try.underlying2
  have p1 := run_part_plain (P := Try.prog) (w := w) (e := 3) (by kernel_rfl) (xs := #[.int .i64 o, .int .i64 n]) (off := 0) (v := .int .i64 o) rfl
  have p2 := run_part_plain (P := Try.prog) (w := w) (e := 2) (by kernel_rfl) (xs := #[.int .i64 o, .int .i64 n]) (off := 1) (v := .int .i64 n) rfl
  unfold Program.fieldsOf
  rw [Try.underlying77]
  simp [Op.eqFields, h1, h3, p1, p2]
set_option maxHeartbeats 1000000 in
theorem same15_yes (a b : Option Addr) (n m c d : Nat) (l : List Ic) (w : World) (ha : Ics w a n c l) (hb : Ics w b m d l) :
    Calls Try.prog 13 #[.slice a n c, .slice b m d] w fun e w' => e = .returned (.bool true) ∧ Below w.heap.size w w' := by
  obtain rfl : n = m := by rw [← ha.len_eq, ← hb.len_eq]
  have H1 := Bx.mk ha
  have H2 := Bx.mk hb
  have hn := Nat.le_trans ha.le_cap ha.cap_le
  unfold maxLen at hn
  have hq : ((n : Int) != (n : Int)) = false := by simp
  clear ha hb
  go_enter Try.func13, Try.ntmps13
  go_wp2_with fail
  go_loopw [5] (fun i wr => ∃ k : Nat, k ≤ n ∧ i = .int .i64 k ∧ Bx (Below w.heap.size w wr)) (fun i _ => n - (intOf i).toNat)
  case atStart => exact ⟨0, Nat.zero_le _, rfl, ⟨Below.refl _ _⟩⟩
  case round =>
    obtain ⟨k, hk, rfl, HB⟩ := hrel
    by_cases hlt : k < n
    · obtain ⟨b1, o1, rfl, _, x0, x1⟩ := (H1.out.below HB.out).ic k hlt
      obtain ⟨b2, o2, rfl, _, y0, y1⟩ := (H2.out.below HB.out).ic k hlt
      have hki : (k : Int) < (n : Int) := by omega
      generalize l.getD k ic0 = x at x0 x1 y0 y1
      obtain ⟨oo, nn⟩ := x
      simp only at x0 x1 y0 y1
      have heq := ins_eq oo nn
      go_wp2_with fail
      go_quiet (fail)
      go_wp2_with fail
      go_roundw
      case rel => exact ⟨k + 1, by omega, by go_num, ⟨below_drewN HB.out _⟩⟩
      case measure => simp [intOf]; omega
    · have hki : ¬ (k : Int) < (n : Int) := by omega
      go_wp2_with fail
      go_ret
      exact ⟨rfl, HB.out⟩
set_option maxHeartbeats 1000000 in
theorem ints15_yes (a b : Option Addr) (n m c d : Nat) (l : List Int) (w : World) (ha : Ivs w a n c l) (hb : Ivs w b m d l) :
    Calls Try.prog 42 #[.slice a n c, .slice b m d] w fun e w' => e = .returned (.bool true) ∧ Below w.heap.size w w' := by
  obtain rfl : n = m := by rw [← ha.len_eq, ← hb.len_eq]
  have H1 := Bx.mk ha
  have H2 := Bx.mk hb
  have hn := Nat.le_trans ha.le_cap ha.cap_le
  unfold maxLen at hn
  have hq : ((n : Int) != (n : Int)) = false := by simp
  clear ha hb
  go_enter Try.func42, Try.ntmps42
  go_wp2_with fail
  go_loopw [5] (fun i wr => ∃ k : Nat, k ≤ n ∧ i = .int .i64 k ∧ Bx (Below w.heap.size w wr)) (fun i _ => n - (intOf i).toNat)
  case atStart => exact ⟨0, Nat.zero_le _, rfl, ⟨Below.refl _ _⟩⟩
  case round =>
    obtain ⟨k, hk, rfl, HB⟩ := hrel
    by_cases hlt : k < n
    · obtain ⟨b1, o1, rfl, _, x0⟩ := (H1.out.below HB.out).iv k hlt 0
      obtain ⟨b2, o2, rfl, _, y0⟩ := (H2.out.below HB.out).iv k hlt 0
      have hki : (k : Int) < (n : Int) := by omega
      generalize l.getD k 0 = x at x0 y0
      have hx : (x != x) = false := by simp
      go_wp2_with fail
      go_quiet (fail)
      go_wp2_with fail
      go_roundw
      case rel => exact ⟨k + 1, by omega, by go_num, ⟨below_drewN HB.out _⟩⟩
      case measure => simp [intOf]; omega
    · have hki : ¬ (k : Int) < (n : Int) := by omega
      go_wp2_with fail
      go_ret
      exact ⟨rfl, HB.out⟩
end Go.Proofs.Ytbjeeefkbmdmfaa
namespace Go.Proofs.Ytbjeeefkbmdmfaa
open Go.RowKit
set_option linter.unusedVariables false

set_option maxRecDepth 100000 in
theorem Try.infoI17 : (Try.prog.info? 3).map (fun i => (i.zero, i.size, i.bytes)) = some (some (.int .i64 0), 1, 8) := by kernel_rfl
set_option maxHeartbeats 4000000 in
set_option maxRecDepth 100000 in
theorem few17_any (a : Option Addr) (len cap n : Nat) (l : List Opr) (w : World) (h : Ors w a len cap l) (hn : 1 ≤ n) (hn2 : n ≤ 1000000) :
    Calls Try.prog 10 #[.slice a len cap, .int .i64 n] w fun e w' => ∃ v, e = .returned v ∧ w'.ownsRow w.heap.size 35 7 v (l.take n).length ((l.take n).flatMap orC) ∧ Below w.heap.size w w' := by
  obtain ⟨i0, hi, hz0, hz1, hz2⟩ := info_parts Try.infoO
  have hm := Nat.le_trans h.le_cap h.cap_le
  have hcm := h.cap_le
  have hlc := h.le_cap
  have hl := h.len_eq
  unfold maxLen at hm hcm
  cases a with
  | none =>
    have hc0 := h.nil rfl
    obtain rfl : cap = 0 := hc0
    obtain rfl : len = 0 := by omega
    obtain rfl : l = [] := List.eq_nil_of_length_eq_zero hl
    have hn' : ¬ (n : Int) < ((0 : Nat) : Int) := by omega
    go_enter Try.func10, Try.ntmps10
    go_wp2
    go_ret
    exact ⟨_, rfl, by simpa using World.ownsRow_nil _ _ _ _, Below.refl _ _⟩
  | some ad =>
    by_cases hlt : n < len
    · have hb := h.take n (by omega)
      have hcells := hb.cells orC_len rfl
      obtain ⟨b, off, e, _, _⟩ := h.spot (by omega)
      cases e
      have HTL : Bx ((l.take n).length = n) := ⟨by rw [List.length_take]; omega⟩
      have HFL : Bx (((l.take n).flatMap orC).length = n * 7) := ⟨by rw [flatE_len orC_len, HTL.out]⟩
      have HON := Bx.mk (flatE_one orC_one (l.take n))
      rw [HTL.out]
      generalize (l.take n).flatMap orC = ne at hcells HFL HON
      have hnI : (n : Int) < (len : Int) := by omega
      have HCE := Bx.mk hcells
      clear hb hcells HTL hl
      go_enter Try.func10, Try.ntmps10
      go_wp2_with (at_builtin; refine wpList_append_own _ rfl _ _ 23 rfl w.heap.size 35 i0 (.agg #[.int .i64 0, .int .i64 0, .int .i64 0, .bool false, .int .i64 0, .int .i64 0, .int .i64 0]) 7 56 Try.underlying23 hi hz0 hz1 hz2 rfl (by decide) _ 0 [] rfl (World.ownsRow_nil _ _ _ _) ⟨b, off, none⟩ n cap ne rfl HFL.out HCE.out HON.out ?oc3 ?oc4 (Nat.le_refl _) ?_)
      case oc3 => unfold maxLen; omega
      case oc4 => omega
      intro v' w1 hown hgrow _
      have hb1 : Below w.heap.size w w1 := (Below.refl _ _).grown hgrow (Nat.le_refl _) (by intro k hk; cases hk)
      clear hgrow hi hz0 hz1 hz2
      go_wp2
      go_ret
      exact ⟨_, rfl, hown, hb1⟩
    · have hcells := h.cells orC_len rfl
      have HFL : Bx ((l.flatMap orC).length = len * 7) := ⟨by rw [flatE_len orC_len, hl]⟩
      have HON := Bx.mk (flatE_one orC_one l)
      rw [List.take_of_length_le (by omega), hl]
      generalize l.flatMap orC = ne at hcells HFL HON
      have hnI : ¬ (n : Int) < (len : Int) := by omega
      have HCE := Bx.mk hcells
      clear hcells hl
      go_enter Try.func10, Try.ntmps10
      go_wp2_with (at_builtin; refine wpList_append_own _ rfl _ _ 23 rfl w.heap.size 35 i0 (.agg #[.int .i64 0, .int .i64 0, .int .i64 0, .bool false, .int .i64 0, .int .i64 0, .int .i64 0]) 7 56 Try.underlying23 hi hz0 hz1 hz2 rfl (by decide) _ 0 [] rfl (World.ownsRow_nil _ _ _ _) ad len cap ne rfl HFL.out HCE.out HON.out ?od3 ?od4 (Nat.le_refl _) ?_)
      case od3 => unfold maxLen; omega
      case od4 => omega
      intro v' w1 hown hgrow _
      have hb1 : Below w.heap.size w w1 := (Below.refl _ _).grown hgrow (Nat.le_refl _) (by intro k hk; cases hk)
      clear hgrow hi hz0 hz1 hz2
      go_wp2
      go_ret
      exact ⟨_, rfl, hown, hb1⟩
end Go.Proofs.Ytbjeeefkbmdmfaa
