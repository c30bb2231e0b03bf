/- A copy of bytes: bytes.Clone; a part of bytes, bytes of a constant. A piece of bytes that is cut out: b[p:], b[p:q], b[:q], wherever they lie. No walk. -/
import Derived.Test.YtpfijaojgeceeaaGreatDoorAuan
import Derived.Test.YtpfijaojgeceeaaGreatDoorAppZeros
import Derived.Laws.Cover3
import Derived.Lib.SlBytesConst
namespace Go.Proofs.YtpfijaojgeceeaaGreatDoor
open Go.RowKit
set_option linter.unusedVariables false

set_option maxRecDepth 100000 in
/-- a part of bytes -/
theorem Bts.part {w : World} {b off len cap : Nat} {l : List Int} (h : Bts w (some ⟨b, off, Option.none⟩) len cap l) (o m cap' : Nat) (hom : o + m ≤ len) (hc : m ≤ cap') (hm : cap' ≤ maxLen) : Bts w (some ⟨b, off + o, Option.none⟩) m cap' ((l.drop o).take m) := by
  have hl := h.len_eq
  refine ⟨by rw [List.length_take, List.length_drop]; omega, fun c hc => h.byt c (List.mem_of_mem_drop (List.mem_of_mem_take hc)), hc, hm, (fun hh => by cases hh), fun hp => ?_⟩
  obtain ⟨b', off', e, hlt, hcell⟩ := h.spot (by omega)
  cases e
  refine ⟨b, off + o, rfl, hlt, fun i hi => ?_⟩
  rw [Nat.add_assoc, hcell (o + i) (by omega), getD_take_drop _ _ _ _ hi]
set_option maxRecDepth 100000 in
theorem owns_row {w : World} {base n : Nat} {l : List Int} {A : Array Value} (hA : A = (bv l).toArray) (hl : l.length = n) (hm : n ≤ maxLen) (hb : base ≤ w.heap.size) :
    (w.alloc (.cells A 5)).ownsRow base 5 1 (.slice (some ⟨w.heap.size, 0, none⟩) n n) n (bv l) := by
  have h := owns_fresh w base n n l #[] hl (by simp) hm hb
  rw [Array.append_empty] at h
  rw [hA]; exact h
set_option maxRecDepth 100000 in
theorem owns_empty (w : World) (base : Nat) (l : List Int) (h : l = []) : w.ownsRow base 5 1 (.slice none 0 0) l.length (bv l) := by
  rw [h]; exact World.ownsRow_nil _ _ _ _

set_option maxRecDepth 100000 in
theorem eql_nil (w : World) (a : Option Addr) (l c : Nat) : (binOp .eql 22 (.slice a l c) (.slice none 0 0)).run Tryz.prog w = .ok (.bool a.isNone) w := by
  simp only [binOp]
  simp [run_equal_slice_nil w _ _ a l c Tryz.underlying22]

set_option maxRecDepth 100000 in
set_option maxHeartbeats 400000 in
theorem clone_any (a : Option Addr) (len cap : Nat) (l : List Int) (w : World) (h : Bts w a len cap l) (hs : len ≤ 1099511627776) :
    Calls Tryz.prog 20 #[.slice a len cap] w fun e w' => ∃ v, e = .returned v ∧ w'.ownsRow w.heap.size 5 1 v len (bv l) ∧ Below w.heap.size w w' := by
  cases a with
  | none =>
    have hc0 := h.nil rfl
    have hlc := h.le_cap
    have hl := h.len_eq
    obtain rfl : cap = 0 := hc0
    obtain rfl : len = 0 := by omega
    obtain rfl : l = [] := List.eq_nil_of_length_eq_zero hl
    have hnil := eql_nil w none 0 0
    go_enter Tryz.func20, Tryz.ntmps20
    go_wp2
    go_ret
    exact ⟨_, rfl, World.ownsRow_nil _ _ _ _, Below.refl _ _⟩
  | some ad =>
    have hb0 : Below w.heap.size w (w.alloc (.cells #[] 5)) := (Below.refl _ _).alloc (Nat.le_refl _) _
    have h0 := h.below hb0
    have ho0 : (w.alloc (.cells #[] 5)).ownsRow w.heap.size 5 1 (.slice (some ⟨w.heap.size, 0, none⟩) 0 0) 0 (bv []) := owns_row (l := []) rfl rfl (by decide) (Nat.le_refl _)
    have hsz := hb0.size
    have hnil := eql_nil w (some ad) len cap
    go_enter Tryz.func20, Tryz.ntmps20
    go_wp2_with (at_builtin; refine wpList_append_bts rfl (.tmp 5) (.tmp 6) rfl w.heap.size 0 _ [] rfl ho0 (some ad) len cap l rfl h0 (by omega) hsz ?_; intro v1 w1 ho1 hb1 _)
    rw [Nat.zero_add, List.nil_append] at ho1
    go_ret
    exact ⟨_, rfl, ho1, hb0.trans hb1⟩
set_option maxRecDepth 100000 in
/-- bytes of a constant, as they lie -/
theorem bts_const (w : World) (l : List Int) (hb : Byt l) (fr : Nat × Nat) (hm : l.length ≤ maxLen) : Bts (w.alloc (.cells (bv l).toArray 5 fr)) (some ⟨w.heap.size, 0, none⟩) l.length l.length l := by
  refine ⟨rfl, hb, Nat.le_refl _, hm, (fun hh => by cases hh), fun _ => ⟨w.heap.size, 0, rfl, by simp, fun i hi => ?_⟩⟩
  rw [Nat.zero_add, World.cell?_alloc_mark, List.getElem?_toArray]
  unfold bv; rw [List.getElem?_map, List.getElem?_eq_getElem hi, List.getD_eq_getElem?_getD, List.getElem?_eq_getElem hi]; rfl
end Go.Proofs.YtpfijaojgeceeaaGreatDoor
namespace Go.Proofs.YtpfijaojgeceeaaGreatDoor
open Go.RowKit
set_option linter.unusedVariables false

set_option maxRecDepth 100000 in
theorem bs_size (w : World) : (Go.sizeOf (Tryz.prog.elem 22)).run Tryz.prog w = .ok 1 w := by
  rw [show Tryz.prog.elem 22 = 5 from by kernel_rfl]
  obtain ⟨i0, hi, hz0, hz1, hz2⟩ := info_parts Tryz.info5
  simp [Go.sizeOf, typeInfo, hi, hz1]
set_option maxRecDepth 100000 in
theorem bs_under : Tryz.prog.underlying 22 = some (.slice (Tryz.prog.elem 22)) := by kernel_rfl
/-- where a piece begins -/
def slA (a : Option Addr) (p cap : Nat) : Option Addr := if cap = p then a else a.map (·.add p)
set_option maxRecDepth 100000 in
theorem Bts.piece {w : World} {a : Option Addr} {len cap : Nat} {l : List Int} (h : Bts w a len cap l) (p q : Nat) (hp : p ≤ q) (hq : q ≤ len) : Bts w (slA a p cap) (q - p) (cap - p) ((l.drop p).take (q - p)) := by
  have hl := h.len_eq
  have hc := h.le_cap
  have hm := h.cap_le
  refine ⟨by rw [List.length_take, List.length_drop]; omega, fun c hc => h.byt c (List.mem_of_mem_drop (List.mem_of_mem_take hc)), by omega, by omega, fun hn => ?_, fun hpos => ?_⟩
  · unfold slA at hn
    split at hn
    · omega
    · cases a with
      | none => have := h.nil rfl; omega
      | some x => cases hn
  · obtain ⟨b, off, rfl, hlt, hcc⟩ := h.spot (by omega)
    refine ⟨b, off + p, by unfold slA; rw [if_neg (by omega)]; simp [Addr.add_lit], hlt, fun i hi => ?_⟩
    rw [Nat.add_assoc, hcc (p + i) (by omega), getD_take_drop _ _ _ _ hi]
set_option maxRecDepth 100000 in
theorem Bts.rest {w : World} {a : Option Addr} {len cap : Nat} {l : List Int} (h : Bts w a len cap l) (p : Nat) (hp : p ≤ len) : Bts w (slA a p cap) (len - p) (cap - p) (l.drop p) := by
  have h1 := h.piece p len hp (Nat.le_refl _)
  rwa [List.take_of_length_le (by rw [List.length_drop, h.len_eq]; omega)] at h1
set_option maxRecDepth 100000 in
theorem slA_block {a : Option Addr} {p cap : Nat} {x : Addr} (h : slA a p cap = some x) : ∃ y, a = some y ∧ x.block = y.block := by
  unfold slA at h
  split at h
  · exact ⟨x, h, rfl⟩
  · cases a with
    | none => cases h
    | some y => exact ⟨y, rfl, by cases h; simp only [Addr.add]; split <;> rfl⟩
set_option maxRecDepth 100000 in
theorem run_sl_l (a : Option Addr) (len cap p : Nat) (i : Int) (hi : i = (p : Int)) (hp : p ≤ len) (w : World) : (Instr.sliceAt 22 (.slice a len cap) (some (.int .i64 i)) none none).run Tryz.prog w = .ok (.slice (slA a p cap) (len - p) (cap - p)) w := by
  subst hi
  rw [run_sliceAt_slice w _ _ _ _ _ bs_under, run_slice_l w _ _ len cap bs_under .i64 p (by omega) (by omega), bs_size]
  simp [sliced, slA]
set_option maxRecDepth 100000 in
theorem run_sl_lh (a : Option Addr) (len cap p q : Nat) (i j : Int) (hi : i = (p : Int)) (hj : j = (q : Int)) (hp : p ≤ q) (hq : q ≤ cap) (w : World) : (Instr.sliceAt 22 (.slice a len cap) (some (.int .i64 i)) (some (.int .i64 j)) none).run Tryz.prog w = .ok (.slice (slA a p cap) (q - p) (cap - p)) w := by
  subst hi; subst hj
  rw [run_sliceAt_slice w _ _ _ _ _ bs_under, run_slice_lh w _ _ len cap bs_under .i64 .i64 p q (by omega) (by omega) (by omega), bs_size]
  simp [sliced, slA]
set_option maxRecDepth 100000 in
theorem run_sl_h (a : Option Addr) (len cap q : Nat) (j : Int) (hj : j = (q : Int)) (hq : q ≤ cap) (w : World) : (Instr.sliceAt 22 (.slice a len cap) none (some (.int .i64 j)) none).run Tryz.prog w = .ok (.slice (slA a 0 cap) q cap) w := by
  subst hj
  rw [run_sliceAt_slice w _ _ _ _ _ bs_under, run_slice_h w _ _ len cap bs_under .i64 q (by omega) (by omega), bs_size]
  simp [sliced, slA]
set_option maxRecDepth 100000 in
theorem run_sl_lhm (a : Option Addr) (len cap p q : Nat) (i j k : Int) (hi : i = (p : Int)) (hj : j = (q : Int)) (hk : k = (q : Int)) (hp : p ≤ q) (hq : q ≤ cap) (w : World) : (Instr.sliceAt 22 (.slice a len cap) (some (.int .i64 i)) (some (.int .i64 j)) (some (.int .i64 k))).run Tryz.prog w = .ok (.slice (slA a p q) (q - p) (q - p)) w := by
  subst hi; subst hj; subst hk
  rw [run_sliceAt_slice w _ _ _ _ _ bs_under, run_slice_lhm w _ _ len cap bs_under .i64 .i64 .i64 p q q (by omega) (by omega) (by omega) (by omega), bs_size]
  simp [sliced, slA]
set_option maxRecDepth 100000 in
/-- a piece with no room behind it -/
theorem Bts.clip {w : World} {a : Option Addr} {len cap : Nat} {l : List Int} (h : Bts w a len cap l) (p q : Nat) (hp : p ≤ q) (hq : q ≤ len) : Bts w (slA a p q) (q - p) (q - p) ((l.drop p).take (q - p)) := by
  have hl := h.len_eq
  have hc := h.le_cap
  have hm := h.cap_le
  refine ⟨by rw [List.length_take, List.length_drop]; omega, fun c hc => h.byt c (List.mem_of_mem_drop (List.mem_of_mem_take hc)), Nat.le_refl _, by omega, fun hn => ?_, fun hpos => ?_⟩
  · unfold slA at hn
    split at hn
    · omega
    · cases a with
      | none => have := h.nil rfl; omega
      | some x => cases hn
  · obtain ⟨b, off, rfl, hlt, hcc⟩ := h.spot (by omega)
    refine ⟨b, off + p, by unfold slA; rw [if_neg (by omega)]; simp [Addr.add_lit], hlt, fun i hi => ?_⟩
    rw [Nat.add_assoc, hcc (p + i) (by omega), getD_take_drop _ _ _ _ hi]
set_option maxRecDepth 100000 in
theorem own_sl {w : World} {base n : Nat} {v : Value} {l : List Int} (h : w.ownsRow base 5 1 v n (bv l)) : ∃ a c, v = .slice a n c := by
  rcases h.2 with ⟨rfl, h0⟩ | ⟨g, cap, cur, rfl, _⟩
  · exact ⟨none, 0, by rw [h0]⟩
  · exact ⟨_, cap, rfl⟩
end Go.Proofs.YtpfijaojgeceeaaGreatDoor
