/- Small calls of the law itself: lives, few, kept, made. -/
import Derived.Test.YtihmfnndnjhpbaaDoIn
import Derived.Test.YtihmfnndnjhpbaaLeast
namespace Go.Proofs.Ytihmfnndnjhpbaa
open Go.RowKit
set_option linter.unusedVariables false

set_option maxRecDepth 100000 in
theorem one_bts (w : World) (x : Int) (hx : 0 ≤ x ∧ x ≤ 255) : Bts (w.alloc (.cells #[.int .u8 x] 5)) (some ⟨w.heap.size, 0, none⟩) 1 1 [x] := by
  refine ⟨rfl, Byt.cons hx Byt.nil, Nat.le_refl _, by decide, (fun hh => by cases hh), fun _ => ⟨w.heap.size, 0, rfl, by simp, fun i hi => ?_⟩⟩
  obtain rfl : i = 0 := by omega
  rw [cell_of_row _ _ (0 + 0) _ _ (0, 0) (heap_alloc_new w (.cells #[.int .u8 x] 5))]; rfl
set_option maxRecDepth 100000 in
theorem lives_wr : (dnew 1).wrE 0 [7] = 0 ∧ ((dnew 1).wr 0 [7]).O.length = 1 := by
  simp [DS.wrE, DS.wr, dnew, DS.fits, DS.last, DS.tick]
set_option maxRecDepth 100000 in
set_option maxHeartbeats 400000 in
theorem lives_any (w : World) :
    Calls Try.prog 10 #[] w fun e w' => e = .returned (.bool true) ∧ Below w.heap.size w w' := by
  go_enter Try.func10, Try.ntmps10
  go_wp2_with fail
  refine (new_any 1 _ (by decide) (by decide)).mono ?_
  rintro e w1 ⟨g, rfl, hD, hb1⟩
  have hbt := one_bts w1 7 (by decide)
  have hb2 : Below w1.heap.size w1 (w1.alloc (.cells #[.int .u8 7] 5)) := (Below.refl _ _).alloc (Nat.le_refl _) _
  have hD2 := hD.below hb2
  obtain ⟨own, hown⟩ : ∃ own : Nat → Prop, own = fun k => w.heap.size ≤ k ∧ k < w1.heap.size := ⟨_, rfl⟩
  have HN : Bx (0 < 1 → ∀ p : Addr, some (⟨w1.heap.size, 0, none⟩ : Addr) = some p → ¬ own p.block) := ⟨fun _ p hp h => by cases hp; rw [hown] at h; exact Nat.lt_irrefl _ h.2⟩
  have HO : Bx (∀ k, own k → w.heap.size ≤ k) := ⟨fun k h => by rw [hown] at h; exact h.1⟩
  rw [← hown] at hD2
  have hb12 := bstep hb1 hb2
  have hs := hb12.size
  clear hD hb2 hb1 hown
  go_wp2_with fail
  generalize w1.alloc (.cells #[.int .u8 7] 5) = w2 at hbt hD2 hb12 hs ⊢
  refine (write_any g own (dnew 1) 0 _ 1 1 [7] _ hD2 hbt HN.out (by simp [dnew])).mono ?_
  rintro e w3 ⟨rfl, own3, hD3, hdid⟩
  have hlow : Below w.heap.size w w3 := hb12.trans (hdid.kept.low HO.out hs)
  rw [lives_wr.1]
  have hl := lives_wr.2
  generalize (dnew 1).wr 0 [7] = s at hD3 hl
  clear hdid hbt hD2 hb12 hs HN HO
  go_wp2_with fail
  refine (open_any g own3 s _ hD3).mono ?_
  rintro e w' ⟨rfl, rfl⟩
  rw [hl]
  clear hl hD3
  go_wp2
  go_ret
  exact ⟨rfl, hlow⟩

set_option maxRecDepth 100000 in
theorem dos_size (w : World) : (Go.sizeOf (Try.prog.elem 22)).run Try.prog w = .ok 4 w := by kernel_rfl
set_option maxRecDepth 100000 in
theorem dos_under : Try.prog.underlying 22 = some (.slice (Try.prog.elem 22)) := by kernel_rfl
set_option maxRecDepth 100000 in
theorem dos_cut (b o len cap : Nat) (hk : 150 ≤ cap) (w : World) : (Instr.sliceAt 22 (.slice (some ⟨b, o, none⟩) len cap) none (some (.int .i64 150)) none).run Try.prog w = .ok (.slice (some ⟨b, o, none⟩) 150 cap) w := by
  rw [run_sliceAt_slice w _ _ _ _ _ dos_under, run_slice_h w _ _ len cap dos_under .i64 150 (by omega) (by omega), dos_size]
  simp [sliced, Addr.add_lit]
set_option maxRecDepth 100000 in
set_option maxHeartbeats 400000 in
theorem few9_any (a : Option Addr) (len cap : Nat) (L : List DoM) (w : World) (h : Dos w a len cap L) :
    Calls Try.prog 11 #[.slice a len cap] w fun e w' => (∃ m, e = .returned (.slice a m cap) ∧ m ≤ 150 ∧ Dos w a m cap (L.take 150)) ∧ w = w' := by
  have hcc := h.le_cap
  have hcm := h.cap_le
  have hl := h.len_eq
  unfold maxLen at hcm
  by_cases hlt : (len : Int) > 150
  · have hT := h.take 150 (by omega)
    obtain ⟨b, off, rfl, _, _⟩ := h.spot (by omega)
    have hsl := dos_cut b off len cap (by omega)
    clear h hl
    go_enter Try.func11, Try.ntmps11
    go_wp2
    go_ret
    exact ⟨⟨150, rfl, Nat.le_refl _, hT⟩, rfl⟩
  · have HT : Hid (L.take 150 = L) := List.take_of_length_le (by omega)
    have hm : len ≤ 150 := by omega
    clear hl
    go_enter Try.func11, Try.ntmps11
    go_wp2
    go_ret
    exact ⟨⟨len, rfl, hm, by rw [HT.out]; exact h⟩, rfl⟩
set_option maxRecDepth 100000 in
theorem Bls.take {w : World} {ao : Option Addr} {len cap : Nat} {K : List Bool} (h : Bls w ao len cap K) (k : Nat) (hk : k ≤ len) : Bls w ao k cap (K.take k) :=
  ⟨by rw [List.length_take, h.len_eq]; omega, by have := h.le_cap; omega, h.cap_le, fun hp => by
    obtain ⟨b, off, e, hlt, hc⟩ := h.spot (by omega)
    refine ⟨b, off, e, hlt, fun i hi => ?_⟩
    rw [show (K.take k).getD i false = K.getD i false from by rw [List.getD_eq_getElem?_getD, List.getElem?_take, if_pos hi, ← List.getD_eq_getElem?_getD]]
    exact hc i (by omega)⟩
set_option maxRecDepth 100000 in
set_option maxHeartbeats 400000 in
theorem kept_any (a : Option Addr) (len cap : Nat) (K : List Bool) (w : World) (h : Bls w a len cap K) :
    Calls Try.prog 18 #[.slice a len cap] w fun e w' => (∃ m, e = .returned (.slice a m cap) ∧ m ≤ 300 ∧ Bls w a m cap (K.take 300)) ∧ w = w' := by
  have hcc := h.le_cap
  have hcm := h.cap_le
  have hl := h.len_eq
  unfold maxLen at hcm
  by_cases hlt : (len : Int) > 300
  · have hT := h.take 300 (by omega)
    obtain ⟨b, off, rfl, _, _⟩ := h.spot (by omega)
    clear h hl
    go_enter Try.func18, Try.ntmps18
    go_wp2
    go_ret
    exact ⟨⟨300, rfl, Nat.le_refl _, hT⟩, rfl⟩
  · have HT : Hid (K.take 300 = K) := List.take_of_length_le (by omega)
    have hm : len ≤ 300 := by omega
    clear hl
    go_enter Try.func18, Try.ntmps18
    go_wp2
    go_ret
    exact ⟨⟨len, rfl, hm, by rw [HT.out]; exact h⟩, rfl⟩
end Go.Proofs.Ytihmfnndnjhpbaa
