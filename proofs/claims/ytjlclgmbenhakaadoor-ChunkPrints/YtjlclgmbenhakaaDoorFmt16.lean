/- A number's digits at base 16 behind an own row: strconv.AppendInt. -/
import Derived.Test.YtjlclgmbenhakaaDoorCDoor
import Derived.Test.YtjlclgmbenhakaaDoorAlloc
import Derived.Test.YtjlclgmbenhakaaDoorChunkMath3
import Derived.Test.YtjlclgmbenhakaaDoorAppStr
import Derived.Laws.BitsAllLaws
namespace Go.Proofs.YtjlclgmbenhakaaDoor
open Go.RowKit
set_option linter.unusedVariables false

/-- the library's digits -/
def dgS : ByteArray := ⟨#[48, 49, 50, 51, 52, 53, 54, 55, 56, 57, 97, 98, 99, 100, 101, 102, 103, 104, 105, 106, 107, 108, 109, 110, 111, 112, 113, 114, 115, 116, 117, 118, 119, 120, 121, 122]⟩
set_option maxRecDepth 100000 in
theorem dgS_hx : ∀ k, k < 16 → sb dgS k = hxD k := by decide
set_option maxRecDepth 100000 in
theorem idx_dg (j : Nat) (hj : j < 16) (S : Value) (hS : Value.string dgS = S) : ∀ w, (Instr.index 9 S (.int .u64 (j : Int))).run Tryd.prog w = .ok (.int .u8 (hxD j)) w := by
  intro w
  subst hS
  have hj2 : j < dgS.size := by show j < 36; omega
  have hb : dgS[j]? = some (dgS[j]'hj2) := getElem?_pos dgS j hj2
  simp only [Instr.index, asIntOf, go_sem, part]
  simp [Tryd.underlying9, underlying, hb]
  rw [sb_eq dgS j hj2, dgS_hx j hj]
set_option maxRecDepth 100000 in
theorem and15 (u : Nat) (h : u < 18446744073709551616) : bits .and .u64 (u : Int) 15 = ((u % 16 : Nat) : Int) := by
  have h1 := u64_and (u : Int) 15 (by omega) (by omega) (by decide) (by decide)
  rw [h1]
  show ((u &&& 15 : Nat) : Int) = _
  rw [show (15 : Nat) = 2 ^ 4 - 1 from rfl, Nat.and_two_pow_sub_one_eq_mod]
set_option maxRecDepth 100000 in
theorem z65 : (Tryd.prog.info? 71).map (fun i => i.zero.map (·.cells.size)) = some (some 65) := by kernel_rfl
/-- the digits that were written, from the array's end on -/
structure FB (w wr : World) (G u x k : Nat) (D : List Int) : Prop where
  row : ∃ cs : Array Value, wr.heap[G]? = some (.cells cs 71 (0, 0)) ∧ cs.size = 65 ∧ ∀ j, j < k → cs[65 - k + j]? = some (.int .u8 (D.getD j 0))
  bel : Below w.heap.size w wr
  dl : D.length = k
  dg : hexN u = hexN x ++ D
  new : w.heap.size ≤ G
set_option maxRecDepth 100000 in
theorem FB.put {w wr : World} {G u x k : Nat} {D : List Int} (h : FB w wr G u x k D) (hk : k < 65) (y : Int) : ∃ cs : Array Value, (wr.setCell ⟨G, 64 - k, none⟩ (.int .u8 y)).heap[G]? = some (.cells cs 71 (0, 0)) ∧ cs.size = 65 ∧ ∀ j, j < k + 1 → cs[65 - (k + 1) + j]? = some (.int .u8 ((y :: D).getD j 0)) := by
  obtain ⟨cs, h1, h2, h3⟩ := h.row
  refine ⟨_, heap_setCell_same wr G (64 - k) cs _ _ h1, by simpa using h2, fun j hj => ?_⟩
  rw [Array.getElem?_setIfInBounds]
  cases j with
  | zero => rw [if_pos (by omega), if_pos (by omega)]; rfl
  | succ j =>
    rw [if_neg (by omega), show 65 - (k + 1) + (j + 1) = 65 - k + j from by omega, h3 j (by omega)]
    rfl
set_option maxRecDepth 100000 in
theorem FB.more {w wr : World} {G u x k : Nat} {D : List Int} (h : FB w wr G u x k D) (hk : k < 65) (hx : ¬ x < 16) : FB w (wr.setCell ⟨G, 64 - k, none⟩ (.int .u8 (hxD (x % 16)))) G u (x / 16) (k + 1) (hxD (x % 16) :: D) :=
  ⟨h.put hk _, h.bel.setCell (p := ⟨G, 64 - k, none⟩) h.new _, by rw [List.length_cons, h.dl], by rw [h.dg, hexN_ge hx]; simp, h.new⟩
set_option maxRecDepth 100000 in
theorem FB.cell {w wr : World} {G u x k : Nat} {D : List Int} (h : FB w wr G u x k D) (hk : k < 65) : ∃ z, wr.cell? ⟨G, 64 - k, none⟩ = some z ∧ wr.frozen? ⟨G, 64 - k, none⟩ = false := by
  obtain ⟨cs, h1, h2, h3⟩ := h.row
  exact ⟨cs[64 - k]'(by omega), by rw [cell_of_row _ _ _ _ _ (0, 0) h1, Array.getElem?_eq_getElem], frozen_of_row _ _ _ _ _ h1⟩
set_option maxRecDepth 100000 in
theorem FB.done {w wr : World} {G u x k : Nat} {D : List Int} (h : FB w wr G u x k D) (hk : k < 65) (hx : x < 16) : Bts (wr.setCell ⟨G, 64 - k, none⟩ (.int .u8 (hxD x))) (some ⟨G, 64 - k, none⟩) (k + 1) (k + 1) (hexN u) := by
  obtain ⟨cs, h1, h2, h3⟩ := h.put hk (hxD x)
  have hd : hexN u = hxD x :: D := by rw [h.dg, hexN_lt hx]; rfl
  refine ⟨by rw [hd, List.length_cons, h.dl], hexN_byt u, Nat.le_refl _, by unfold maxLen; omega, (fun hh => by cases hh), fun _ => ⟨G, 64 - k, rfl, (Array.getElem?_eq_some_iff.1 h1).1, fun i hi => ?_⟩⟩
  rw [cell_of_row _ _ _ _ _ (0, 0) h1, hd, show 64 - k + i = 65 - (k + 1) + i from by omega]
  exact h3 i hi
set_option maxRecDepth 100000 in
theorem sl65 (G k : Nat) (hk : k ≤ 64) (w : World) : (Instr.sliceAt 71 (.pointer (some ⟨G, 0, none⟩)) (some (.int .i64 (64 - (k : Int)))) none none).run Tryd.prog w = .ok (.slice (some ⟨G, 64 - k, none⟩) (k + 1) (k + 1)) w := by
  have hlen : Tryd.prog.arrayLen 71 = 65 := by kernel_rfl
  have ht : Tryd.prog.underlying 71 = some (.array (Tryd.prog.arrayLen 71) (Tryd.prog.elem 71)) := by kernel_rfl
  have hsz : (sizeOf (Tryd.prog.elem 71)).run Tryd.prog w = .ok 1 w := by kernel_rfl
  rw [run_sliceAt_array_l w 71 ⟨G, 0, none⟩ ht .i64 _ (by omega) (by rw [hlen]; omega), hsz, hlen]
  have e1 : (64 - (k : Int)).toNat = 64 - k := by omega
  simp only [Result.andThen_ok, slicedAt, e1]
  rw [if_neg (by omega), Addr.add_lit]
  simp
  omega
set_option maxRecDepth 100000 in
set_option maxHeartbeats 1000000 in
theorem fbits_16 (u : Nat) (base n : Nat) (v : Value) (l : List Int) (w : World) (hu : u < 4096) (hB : Bru w) (hown : w.ownsRow base 5 1 v n (bv l)) (hb : base ≤ w.heap.size) (hn : n ≤ 1099511627776) :
    Calls Tryd.prog 34 #[v, .int .u64 (u : Int), .int .i64 16, .bool false, .bool true] w fun e w' => ∃ v2, e = .returned (.tuple #[v2, .string ⟨#[]⟩]) ∧ w'.ownsRow base 5 1 v2 (n + (hexN u).length) (bv (l ++ hexN u)) ∧ Kept (fun k => v.ownBlock = some k) w w' ∧ Lies v v2 w.heap.size := by
  have HO := Bx.mk hown
  clear hown
  go_enter Tryd.func34, Tryd.ntmps34
  generalize hS : Value.string (⟨#[48, 49, 50, 51, 52, 53, 54, 55, 56, 57, 97, 98, 99, 100, 101, 102, 103, 104, 105, 106, 107, 108, 109, 110, 111, 112, 113, 114, 115, 116, 117, 118, 119, 120, 121, 122]⟩ : ByteArray) = SV
  have HIX : Bx (∀ k : Nat, k < 16 → ∀ w, (Instr.index 9 SV (.int .u64 (k : Int))).run Tryd.prog w = .ok (.int .u8 (hxD k)) w) := ⟨fun k hk => idx_dg k hk SV hS⟩
  clear hS
  go_wp2_with (refine wpList_alloc_of rfl 71 65 rfl z65 ?_; intro cs hcs)
  have hba : Below w.heap.size w (w.alloc (.cells cs 71)) := (Below.refl _ _).alloc (Nat.le_refl _) _
  have HF : Bx (FB w (w.alloc (.cells cs 71)) w.heap.size u u 0 []) := ⟨⟨⟨cs, heap_alloc_new w _, hcs, fun j hj => by omega⟩, hba, rfl, by simp, Nat.le_refl _⟩⟩
  have HB2 := Bx.mk (hB.below hba)
  obtain ⟨G, hG⟩ : ∃ G, G = w.heap.size := ⟨_, rfl⟩
  have HGG := Bx.mk hG
  rw [← HGG.out] at HF
  rw [← HGG.out]
  generalize w.alloc (.cells cs 71) = wA at HF HB2 ⊢
  clear hba hB hcs hG
  refine (pow2_16 _).mono ?_
  rintro e w' ⟨rfl, hw'⟩
  subst hw'
  go_wp2_with fail
  refine (tz_16 _ HB2.out).mono ?_
  rintro e w' ⟨rfl, hw'⟩
  subst hw'
  go_wp2
  go_loopw [1, 13] (fun xv iv wr => ∃ (x k : Nat) (D : List Int), xv = .int .u64 (x : Int) ∧ iv = .int .i64 (65 - (k : Int)) ∧ ((k = 0 ∧ x < 4096) ∨ (k = 1 ∧ x < 256) ∨ (k = 2 ∧ x < 16)) ∧ Bx (FB w wr G u x k D)) (fun xv _ _ => (intOf xv).toNat)
  case atStart => exact ⟨u, 0, [], rfl, rfl, .inl ⟨rfl, hu⟩, HF⟩
  case round =>
    clear HF HB2
    obtain ⟨x, k, D, rfl, rfl, hkx, HF⟩ := hrel
    have hk3 : k ≤ 2 := by omega
    have hx4 : x < 4096 := by omega
    obtain ⟨z, hcz, hfz⟩ := HF.out.cell (by omega)
    have hi1 : (65 : Int) - (k : Int) - 1 = 64 - (k : Int) := by omega
    have hi2 : (64 - (k : Int)).toNat = 64 - k := by omega
    by_cases hx : x < 16
    · have g1 : decide ((x : Int) ≥ 16) = false := by simp; omega
      have hix := HIX.out x hx
      have HD := Bx.mk (HF.out.done (by omega) hx)
      have HBL : Bx (Below w.heap.size w (wr.setCell ⟨G, 64 - k, none⟩ (.int .u8 (hxD x)))) := ⟨HF.out.bel.setCell (p := ⟨G, 64 - k, none⟩) HF.out.new _⟩
      have hsl := sl65 G k (by omega)
      have HLN : Bx ((hexN u).length = k + 1) := ⟨HD.out.len_eq⟩
      have HOA := Bx.mk (owns_below HO.out HBL.out)
      have HSZ : Bx (base ≤ (wr.setCell ⟨G, 64 - k, none⟩ (.int .u8 (hxD x))).heap.size) := ⟨Nat.le_trans hb HBL.out.size⟩
      clear hkx hx
      go_wp2_with (at_builtin; refine wpList_append_btsL rfl (.tmp 95) (.tmp 97) rfl base n _ l rfl HOA.out _ (k + 1) (k + 1) (hexN u) rfl HD.out (.inr (by omega)) (by omega) HSZ.out ?_; intro v5 w5 ho5 hk5 hl5; have HO5 := Bx.mk ho5; have HK5 : Bx (Kept (fun k => v.ownBlock = some k) w w5) := ⟨(Kept.of_below HBL.out).trans hk5 (fun k hk => .inl hk)⟩; have HL5 : Bx (Lies v v5 w.heap.size) := ⟨fun g hg => by (rcases hl5 g hg with h1 | h1; exact .inl h1; exact .inr (Nat.le_trans HBL.out.size h1))⟩; clear ho5 hk5 hl5)
      go_ret2
      exact ⟨v5, rfl, by rw [HLN.out]; exact HO5.out, HK5.out, HL5.out⟩
    · have g1 : decide ((x : Int) ≥ 16) = true := by simp; omega
      have hix : ∀ w, (Instr.index 9 SV (.int .u64 ((x : Int) % 16))).run Tryd.prog w = .ok (.int .u8 (hxD (x % 16))) w := by
        rw [show ((x : Int) % 16) = ((x % 16 : Nat) : Int) from by omega]; exact HIX.out (x % 16) (by omega)
      have hand := and15 x (by omega)
      have HM := Bx.mk (HF.out.more (by omega) hx)
      have HKX : Bx ((k + 1 = 0 ∧ x / 16 < 4096) ∨ (k + 1 = 1 ∧ x / 16 < 256) ∨ (k + 1 = 2 ∧ x / 16 < 16)) := ⟨by omega⟩
      clear hkx
      go_wp2
      go_roundw
      case rel => exact ⟨x / 16, k + 1, _, by go_num, by go_num, HKX.out, HM⟩
      case measure => simp [intOf]; omega
set_option maxHeartbeats 1000000 in
theorem auint_16 (u : Nat) (base n : Nat) (v : Value) (l : List Int) (w : World) (hu : u < 4096) (hB : Bru w) (hown : w.ownsRow base 5 1 v n (bv l)) (hb : base ≤ w.heap.size) (hn : n ≤ 1099511627776) :
    Calls Tryd.prog 29 #[v, .int .u64 (u : Int), .int .i64 16] w fun e w' => ∃ v2, e = .returned v2 ∧ w'.ownsRow base 5 1 v2 (n + (hexN u).length) (bv (l ++ hexN u)) ∧ Kept (fun k => v.ownBlock = some k) w w' ∧ Lies v v2 w.heap.size := by
  have HC := Bx.mk (fbits_16 u base n v l w hu hB hown hb hn)
  clear hB hown hb
  go_enter Tryd.func29, Tryd.ntmps29
  go_wp2_with fail
  refine HC.out.mono ?_
  rintro e w2 ⟨v2, rfl, ho, hk, hl⟩
  have HO := Bx.mk ho
  have HK := Bx.mk hk
  have HL := Bx.mk hl
  clear ho hk hl HC
  go_wp2
  go_ret
  exact ⟨v2, rfl, HO.out, HK.out, HL.out⟩
set_option maxHeartbeats 1000000 in
theorem aint_16 (u : Nat) (base n : Nat) (v : Value) (l : List Int) (w : World) (hu : u < 4096) (hB : Bru w) (hown : w.ownsRow base 5 1 v n (bv l)) (hb : base ≤ w.heap.size) (hn : n ≤ 1099511627776) :
    Calls Tryd.prog 25 #[v, .int .i64 (u : Int), .int .i64 16] w fun e w' => ∃ v2, e = .returned v2 ∧ w'.ownsRow base 5 1 v2 (n + (hexN u).length) (bv (l ++ hexN u)) ∧ Kept (fun k => v.ownBlock = some k) w w' ∧ Lies v v2 w.heap.size := by
  have HC := Bx.mk (auint_16 u base n v l w hu hB hown hb hn)
  have hcv : (u : Int) % 18446744073709551616 = (u : Int) := by omega
  have g1 : decide ((u : Int) < 0) = false := by simp
  clear hB hown hb
  go_enter Tryd.func25, Tryd.ntmps25
  go_wp2_with fail
  refine HC.out.mono ?_
  rintro e w2 ⟨v2, rfl, ho, hk, hl⟩
  have HO := Bx.mk ho
  have HK := Bx.mk hk
  have HL := Bx.mk hl
  clear ho hk hl HC
  go_wp2
  go_ret
  exact ⟨v2, rfl, HO.out, HK.out, HL.out⟩
set_option maxHeartbeats 1000000 in
theorem appint_16 (u : Nat) (base n : Nat) (v : Value) (l : List Int) (w : World) (hu : u < 4096) (hB : Bru w) (hown : w.ownsRow base 5 1 v n (bv l)) (hb : base ≤ w.heap.size) (hn : n ≤ 1099511627776) :
    Calls Tryd.prog 21 #[v, .int .i64 (u : Int), .int .i64 16] w fun e w' => ∃ v2, e = .returned v2 ∧ w'.ownsRow base 5 1 v2 (n + (hexN u).length) (bv (l ++ hexN u)) ∧ Kept (fun k => v.ownBlock = some k) w w' ∧ Lies v v2 w.heap.size := by
  have HC := Bx.mk (aint_16 u base n v l w hu hB hown hb hn)
  clear hB hown hb
  go_enter Tryd.func21, Tryd.ntmps21
  go_wp2_with fail
  refine HC.out.mono ?_
  rintro e w2 ⟨v2, rfl, ho, hk, hl⟩
  have HO := Bx.mk ho
  have HK := Bx.mk hk
  have HL := Bx.mk hl
  clear ho hk hl HC
  go_wp2
  go_ret
  exact ⟨v2, rfl, HO.out, HK.out, HL.out⟩
end Go.Proofs.YtjlclgmbenhakaaDoor
