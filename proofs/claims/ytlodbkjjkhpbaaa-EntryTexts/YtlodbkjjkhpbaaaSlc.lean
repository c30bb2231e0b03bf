/- A piece of bytes that is cut out: b[p:], b[p:q], b[:q], wherever they lie. No walk. -/
import Derived.Test.YtlodbkjjkhpbaaaClone
namespace Go.Proofs.Ytlodbkjjkhpbaaa
open Go.RowKit
set_option linter.unusedVariables false

set_option maxRecDepth 100000 in
theorem bs_size (w : World) : (Go.sizeOf (Try.prog.elem 29)).run Try.prog w = .ok 1 w := by
  rw [show Try.prog.elem 29 = 5 from by kernel_rfl]
  obtain ⟨i0, hi, hz0, hz1, hz2⟩ := info_parts Try.info5
  simp [Go.sizeOf, typeInfo, hi, hz1]
set_option maxRecDepth 100000 in
theorem bs_under : Try.prog.underlying 29 = some (.slice (Try.prog.elem 29)) := by kernel_rfl
/-- where a piece begins -/
def slA (a : Option Addr) (p cap : Nat) : Option Addr := if cap = p then a else a.map (·.add p)
set_option maxRecDepth 100000 in
theorem Bts.piece {w : World} {a : Option Addr} {len cap : Nat} {l : List Int} (h : Bts w a len cap l) (p q : Nat) (hp : p ≤ q) (hq : q ≤ len) : Bts w (slA a p cap) (q - p) (cap - p) ((l.drop p).take (q - p)) := by
  have hl := h.len_eq
  have hc := h.le_cap
  have hm := h.cap_le
  refine ⟨by rw [List.length_take, List.length_drop]; omega, fun c hc => h.byt c (List.mem_of_mem_drop (List.mem_of_mem_take hc)), by omega, by omega, fun hn => ?_, fun hpos => ?_⟩
  · unfold slA at hn
    split at hn
    · omega
    · cases a with
      | none => have := h.nil rfl; omega
      | some x => cases hn
  · obtain ⟨b, off, rfl, hlt, hcc⟩ := h.spot (by omega)
    refine ⟨b, off + p, by unfold slA; rw [if_neg (by omega)]; simp [Addr.add_lit], hlt, fun i hi => ?_⟩
    rw [Nat.add_assoc, hcc (p + i) (by omega), getD_take_drop _ _ _ _ hi]
set_option maxRecDepth 100000 in
theorem Bts.rest {w : World} {a : Option Addr} {len cap : Nat} {l : List Int} (h : Bts w a len cap l) (p : Nat) (hp : p ≤ len) : Bts w (slA a p cap) (len - p) (cap - p) (l.drop p) := by
  have h1 := h.piece p len hp (Nat.le_refl _)
  rwa [List.take_of_length_le (by rw [List.length_drop, h.len_eq]; omega)] at h1
set_option maxRecDepth 100000 in
theorem slA_block {a : Option Addr} {p cap : Nat} {x : Addr} (h : slA a p cap = some x) : ∃ y, a = some y ∧ x.block = y.block := by
  unfold slA at h
  split at h
  · exact ⟨x, h, rfl⟩
  · cases a with
    | none => cases h
    | some y => exact ⟨y, rfl, by cases h; simp only [Addr.add]; split <;> rfl⟩
set_option maxRecDepth 100000 in
theorem run_sl_l (a : Option Addr) (len cap p : Nat) (i : Int) (hi : i = (p : Int)) (hp : p ≤ len) (w : World) : (Instr.sliceAt 29 (.slice a len cap) (some (.int .i64 i)) none none).run Try.prog w = .ok (.slice (slA a p cap) (len - p) (cap - p)) w := by
  subst hi
  rw [run_sliceAt_slice w _ _ _ _ _ bs_under, run_slice_l w _ _ len cap bs_under .i64 p (by omega) (by omega), bs_size]
  simp [sliced, slA]
set_option maxRecDepth 100000 in
theorem run_sl_lh (a : Option Addr) (len cap p q : Nat) (i j : Int) (hi : i = (p : Int)) (hj : j = (q : Int)) (hp : p ≤ q) (hq : q ≤ cap) (w : World) : (Instr.sliceAt 29 (.slice a len cap) (some (.int .i64 i)) (some (.int .i64 j)) none).run Try.prog w = .ok (.slice (slA a p cap) (q - p) (cap - p)) w := by
  subst hi; subst hj
  rw [run_sliceAt_slice w _ _ _ _ _ bs_under, run_slice_lh w _ _ len cap bs_under .i64 .i64 p q (by omega) (by omega) (by omega), bs_size]
  simp [sliced, slA]
set_option maxRecDepth 100000 in
theorem run_sl_h (a : Option Addr) (len cap q : Nat) (j : Int) (hj : j = (q : Int)) (hq : q ≤ cap) (w : World) : (Instr.sliceAt 29 (.slice a len cap) none (some (.int .i64 j)) none).run Try.prog w = .ok (.slice (slA a 0 cap) q cap) w := by
  subst hj
  rw [run_sliceAt_slice w _ _ _ _ _ bs_under, run_slice_h w _ _ len cap bs_under .i64 q (by omega) (by omega), bs_size]
  simp [sliced, slA]
set_option maxRecDepth 100000 in
theorem run_sl_lhm (a : Option Addr) (len cap p q : Nat) (i j k : Int) (hi : i = (p : Int)) (hj : j = (q : Int)) (hk : k = (q : Int)) (hp : p ≤ q) (hq : q ≤ cap) (w : World) : (Instr.sliceAt 29 (.slice a len cap) (some (.int .i64 i)) (some (.int .i64 j)) (some (.int .i64 k))).run Try.prog w = .ok (.slice (slA a p q) (q - p) (q - p)) w := by
  subst hi; subst hj; subst hk
  rw [run_sliceAt_slice w _ _ _ _ _ bs_under, run_slice_lhm w _ _ len cap bs_under .i64 .i64 .i64 p q q (by omega) (by omega) (by omega) (by omega), bs_size]
  simp [sliced, slA]
set_option maxRecDepth 100000 in
/-- a piece with no room behind it -/
theorem Bts.clip {w : World} {a : Option Addr} {len cap : Nat} {l : List Int} (h : Bts w a len cap l) (p q : Nat) (hp : p ≤ q) (hq : q ≤ len) : Bts w (slA a p q) (q - p) (q - p) ((l.drop p).take (q - p)) := by
  have hl := h.len_eq
  have hc := h.le_cap
  have hm := h.cap_le
  refine ⟨by rw [List.length_take, List.length_drop]; omega, fun c hc => h.byt c (List.mem_of_mem_drop (List.mem_of_mem_take hc)), Nat.le_refl _, by omega, fun hn => ?_, fun hpos => ?_⟩
  · unfold slA at hn
    split at hn
    · omega
    · cases a with
      | none => have := h.nil rfl; omega
      | some x => cases hn
  · obtain ⟨b, off, rfl, hlt, hcc⟩ := h.spot (by omega)
    refine ⟨b, off + p, by unfold slA; rw [if_neg (by omega)]; simp [Addr.add_lit], hlt, fun i hi => ?_⟩
    rw [Nat.add_assoc, hcc (p + i) (by omega), getD_take_drop _ _ _ _ hi]
set_option maxRecDepth 100000 in
theorem own_sl {w : World} {base n : Nat} {v : Value} {l : List Int} (h : w.ownsRow base 5 1 v n (bv l)) : ∃ a c, v = .slice a n c := by
  rcases h.2 with ⟨rfl, h0⟩ | ⟨g, cap, cur, rfl, _⟩
  · exact ⟨none, 0, by rw [h0]⟩
  · exact ⟨_, cap, rfl⟩
end Go.Proofs.Ytlodbkjjkhpbaaa
