/- What the document's Cut and Copy answer. -/
import Derived.Test.YtpfijaojgeceeaaGreatDoorBase
namespace Go.Proofs.YtpfijaojgeceeaaGreatDoor
open Go.RowKit
set_option linter.unusedVariables false

set_option maxRecDepth 100000 in
theorem Bts.cut {w : World} {ao : Option Addr} {len cap : Nat} {l : List Int} (h : Bts w ao len cap l) (n : Nat) (hn : n ≤ len) : Bts w ao n cap (l.take n) := by
  have hl := h.len_eq
  refine ⟨by rw [List.length_take]; omega, h.byt.take n, Nat.le_trans hn h.le_cap, h.cap_le, h.nil, fun hp => ?_⟩
  obtain ⟨b, off, e, hlt, hc⟩ := h.spot (by omega)
  refine ⟨b, off, e, hlt, fun i hi => ?_⟩
  rw [hc i (by omega), List.getD_eq_getElem?_getD, List.getD_eq_getElem?_getD, List.getElem?_take, if_pos hi]

set_option maxRecDepth 100000 in
theorem Bts.cells {w : World} {ad : Addr} {len cap : Nat} {l : List Int} (h : Bts w (some ad) len cap l) : ∀ j u, (bv l)[j]? = some u → w.cell? (ad.add j) = some u := by
  intro j u hu
  have hj : j < l.length := by have := (List.getElem?_eq_some_iff.1 hu).1; rwa [bv_length] at this
  have hl := h.len_eq
  obtain ⟨b, off, e, hlt, hc⟩ := h.spot (by omega)
  cases e
  rw [Addr.add_lit, hc j (by omega), List.getD_eq_getElem?_getD, List.getElem?_eq_getElem hj]
  rw [bv, List.getElem?_map, List.getElem?_eq_getElem hj] at hu
  exact hu

set_option maxHeartbeats 400000 in
theorem cut_any (a : Option Addr) (len cap n : Nat) (l : List Int) (w : World) (h : Bts w a len cap l) (hn : 1 ≤ n) :
    Calls Tryz.prog 14 #[.slice a len cap, .int .i64 n] w fun e w' => (∃ len', e = .returned (.slice a len' cap) ∧ Bts w a len' cap (l.take n)) ∧ w = w' := by
  have hm := Nat.le_trans h.le_cap h.cap_le
  have hcm := h.cap_le
  have hlc := h.le_cap
  unfold maxLen at hm hcm
  by_cases hlt : n < len
  · have hb := h.cut n (by omega)
    obtain ⟨b, off, rfl, _, _⟩ := h.spot (by omega)
    go_enter Tryz.func14, Tryz.ntmps14
    go_wp2
    go_ret
    exact ⟨⟨_, rfl, hb⟩, rfl⟩
  · have hl := h.len_eq
    rw [List.take_of_length_le (by omega)]
    have hn' : ¬ (n : Int) < len := by omega
    go_enter Tryz.func14, Tryz.ntmps14
    go_wp2
    go_ret
    exact ⟨⟨_, rfl, h⟩, rfl⟩

set_option maxHeartbeats 400000 in
theorem copy_any (a : Option Addr) (len cap : Nat) (l : List Int) (w : World) (h : Bts w a len cap l) (hs : len ≤ 140737488355328) :
    Calls Tryz.prog 13 #[.slice a len cap] w fun e w' => ∃ v, e = .returned v ∧ w'.ownsRow w.heap.size 5 1 v len (bv l) ∧ Below w.heap.size w w' := by
  have hm := Nat.le_trans h.le_cap h.cap_le
  have hl := h.len_eq
  obtain ⟨i0, hi, hz0, hz1, hz2⟩ := info_parts Tryz.info5
  cases a with
  | none =>
    have hc0 := h.nil rfl
    have hlc := h.le_cap
    obtain rfl : cap = 0 := hc0
    obtain rfl : len = 0 := by omega
    obtain rfl : l = [] := List.eq_nil_of_length_eq_zero hl
    go_enter Tryz.func13, Tryz.ntmps13
    go_wp2
    go_ret
    exact ⟨_, rfl, World.ownsRow_nil _ _ _ _, Below.refl _ _⟩
  | some ad =>
    have hcells := h.cells
    go_enter Tryz.func13, Tryz.ntmps13
    go_wp2_with (at_builtin; refine wpList_append_own _ rfl _ _ 22 rfl w.heap.size 5 i0 (.int .u8 0) 1 1 Tryz.underlying22 hi hz0 hz1 hz2 rfl (by decide) _ 0 [] rfl (World.ownsRow_nil _ _ _ _) ad len cap (bv l) rfl ?c0 hcells (bv_one l) ?c3 ?c4 (Nat.le_refl _) ?_)
    case c0 => rw [bv_length]; omega
    case c3 => omega
    case c4 => omega
    intro v' w1 hown hgrow _
    have hb1 : Below w.heap.size w w1 := (Below.refl _ _).grown hgrow (Nat.le_refl _) (by intro k hk; cases hk)
    clear hgrow hi hz0 hz1 hz2 hcells
    go_wp2
    go_ret
    exact ⟨_, rfl, hown, hb1⟩
end Go.Proofs.YtpfijaojgeceeaaGreatDoor
