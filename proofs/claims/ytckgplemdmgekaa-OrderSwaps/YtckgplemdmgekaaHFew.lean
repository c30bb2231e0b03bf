/- At most so many events, in memory of their own; two lists that are the same. -/
import Derived.Test.YtckgplemdmgekaaHMem
import Derived.BigQuiet
namespace Go.Proofs.Ytckgplemdmgekaa
open Go.RowKit
set_option linter.unusedVariables false

set_option maxRecDepth 100000 in
theorem Try.infoO : (Try.prog.info? 38).map (fun i => (i.zero, i.size, i.bytes)) = some (some (.agg #[.int .i64 0, .int .i64 0, .int .i64 0, .bool false, .int .i64 0, .int .i64 0, .int .i64 0]), 7, 56) := by kernel_rfl
set_option maxRecDepth 100000 in
theorem op_fields : Try.prog.underlying 38 = some (.struct (Try.prog.fieldsOf 38)) := by
  unfold Program.fieldsOf; rw [Try.underlying38]
set_option maxRecDepth 100000 in
theorem op_eq (c o a r f t : Int) (d : Bool) (w : World) : (Op.equalIn 10000 38 (.agg #[.int .i64 c, .int .i64 o, .int .i64 a, .bool d, .int .i64 r, .int .i64 f, .int .i64 t]) (.agg #[.int .i64 c, .int .i64 o, .int .i64 a, .bool d, .int .i64 r, .int .i64 f, .int .i64 t])).run Try.prog w = .ok true w := by
  rw [show (10000 : Nat) = 9998 + 1 + 1 from rfl, run_equalIn_struct w (9998 + 1) 38 _ _ op_fields (by kernel_rfl)]
  have h1 := fun x => run_equalIn_int (P := Try.prog) w 9998 3 .i64 .i64 x x Try.underlying3
  have h2 := run_equalIn_bool (P := Try.prog) w 9998 4 d d Try.underlying4
  have h3 := fun x => run_equalIn_int (P := Try.prog) w 9998 2 .i64 .i64 x x Try.underlying2
  have p1 := run_part_plain (P := Try.prog) (w := w) (e := 3) (by kernel_rfl) (xs := #[.int .i64 c, .int .i64 o, .int .i64 a, .bool d, .int .i64 r, .int .i64 f, .int .i64 t]) (off := 0) (v := .int .i64 c) rfl
  have p2 := run_part_plain (P := Try.prog) (w := w) (e := 3) (by kernel_rfl) (xs := #[.int .i64 c, .int .i64 o, .int .i64 a, .bool d, .int .i64 r, .int .i64 f, .int .i64 t]) (off := 1) (v := .int .i64 o) rfl
  have p3 := run_part_plain (P := Try.prog) (w := w) (e := 2) (by kernel_rfl) (xs := #[.int .i64 c, .int .i64 o, .int .i64 a, .bool d, .int .i64 r, .int .i64 f, .int .i64 t]) (off := 2) (v := .int .i64 a) rfl
  have p4 := run_part_plain (P := Try.prog) (w := w) (e := 4) (by kernel_rfl) (xs := #[.int .i64 c, .int .i64 o, .int .i64 a, .bool d, .int .i64 r, .int .i64 f, .int .i64 t]) (off := 3) (v := .bool d) rfl
  have p5 := run_part_plain (P := Try.prog) (w := w) (e := 2) (by kernel_rfl) (xs := #[.int .i64 c, .int .i64 o, .int .i64 a, .bool d, .int .i64 r, .int .i64 f, .int .i64 t]) (off := 4) (v := .int .i64 r) rfl
  have p6 := run_part_plain (P := Try.prog) (w := w) (e := 3) (by kernel_rfl) (xs := #[.int .i64 c, .int .i64 o, .int .i64 a, .bool d, .int .i64 r, .int .i64 f, .int .i64 t]) (off := 5) (v := .int .i64 f) rfl
  have p7 := run_part_plain (P := Try.prog) (w := w) (e := 3) (by kernel_rfl) (xs := #[.int .i64 c, .int .i64 o, .int .i64 a, .bool d, .int .i64 r, .int .i64 f, .int .i64 t]) (off := 6) (v := .int .i64 t) rfl
  unfold Program.fieldsOf
  rw [Try.underlying38]
  simp [Op.eqFields, h1, h2, h3, p1, p2, p3, p4, p5, p6, p7]
set_option maxHeartbeats 1000000 in
theorem alike14_yes (a b : Option Addr) (n m c d : Nat) (l : List Opr) (w : World) (ha : Ors w a n c l) (hb : Ors w b m d l) :
    Calls Try.prog 13 #[.slice a n c, .slice b m d] w fun e w' => e = .returned (.bool true) ∧ Below w.heap.size w w' := by
  obtain rfl : n = m := by rw [← ha.len_eq, ← hb.len_eq]
  have H1 := Bx.mk ha
  have H2 := Bx.mk hb
  have hn := Nat.le_trans ha.le_cap ha.cap_le
  unfold maxLen at hn
  have hq : ((n : Int) != (n : Int)) = false := by simp
  clear ha hb
  go_enter Try.func13, Try.ntmps13
  go_wp2_with fail
  go_loopw [5] (fun i wr => ∃ k : Nat, k ≤ n ∧ i = .int .i64 k ∧ Bx (Below w.heap.size w wr)) (fun i _ => n - (intOf i).toNat)
  case atStart => exact ⟨0, Nat.zero_le _, rfl, ⟨Below.refl _ _⟩⟩
  case round =>
    obtain ⟨k, hk, rfl, HB⟩ := hrel
    by_cases hlt : k < n
    · obtain ⟨b1, o1, rfl, _, x0, x1, x2, x3, x4, x5, x6⟩ := (H1.out.below HB.out).or k hlt
      obtain ⟨b2, o2, rfl, _, y0, y1, y2, y3, y4, y5, y6⟩ := (H2.out.below HB.out).or k hlt
      have hki : (k : Int) < (n : Int) := by omega
      generalize l.getD k op0 = x at x0 x1 x2 x3 x4 x5 x6 y0 y1 y2 y3 y4 y5 y6
      obtain ⟨cc, oo, aa, dd, rr, ff, tt⟩ := x
      simp only at x0 x1 x2 x3 x4 x5 x6 y0 y1 y2 y3 y4 y5 y6
      have heq := op_eq cc oo aa rr ff tt dd
      go_wp2_with fail
      go_quiet (fail)
      go_wp2_with fail
      go_roundw
      case rel => exact ⟨k + 1, by omega, by go_num, ⟨below_drewN HB.out _⟩⟩
      case measure => simp [intOf]; omega
    · have hki : ¬ (k : Int) < (n : Int) := by omega
      go_wp2_with fail
      go_ret
      exact ⟨rfl, HB.out⟩
end Go.Proofs.Ytckgplemdmgekaa
