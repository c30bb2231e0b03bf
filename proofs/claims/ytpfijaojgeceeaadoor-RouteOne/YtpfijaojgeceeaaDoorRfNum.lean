/- Pieces of a list of texts; whether all are names, all are numbers: the document's. -/
import Derived.Test.YtpfijaojgeceeaaDoorRouteMath
import Derived.Test.YtpfijaojgeceeaaDoorAuah
import Derived.Test.YtpfijaojgeceeaaDoorAuae
import Derived.Test.YtpfijaojgeceeaaDoorRefRead
import Derived.Test.YtpfijaojgeceeaaDoorAuaj
namespace Go.Proofs.YtpfijaojgeceeaaDoor
open Go.RowKit
set_option linter.unusedVariables false

set_option maxRecDepth 100000 in
theorem sts_size (w : World) : (Go.sizeOf (Tryd.prog.elem 44)).run Tryd.prog w = .ok 1 w := by
  rw [show Tryd.prog.elem 44 = 9 from by kernel_rfl]
  obtain ⟨i0, hi, hz0, hz1, hz2⟩ := info_parts Tryd.info9
  simp [Go.sizeOf, typeInfo, hi, hz1]
set_option maxRecDepth 100000 in
theorem sts_under : Tryd.prog.underlying 44 = some (.slice (Tryd.prog.elem 44)) := by kernel_rfl
set_option maxRecDepth 100000 in
theorem run_sts_l (a : Option Addr) (len cap p : Nat) (i : Int) (hi : i = (p : Int)) (hp : p ≤ len) (w : World) : (Instr.sliceAt 44 (.slice a len cap) (some (.int .i64 i)) none none).run Tryd.prog w = .ok (.slice (slA a p cap) (len - p) (cap - p)) w := by
  subst hi
  rw [run_sliceAt_slice w _ _ _ _ _ sts_under, run_slice_l w _ _ len cap sts_under .i64 p (by omega) (by omega), sts_size]
  simp [sliced, slA]
/-- a piece of a list of texts in memory -/
structure TxO (w : World) (a : Option Addr) (n : Nat) (L : List ByteArray) : Prop where
  len_eq : L.length = n
  spot : 0 < n → ∃ b off, a = some ⟨b, off, none⟩ ∧ b < w.heap.size ∧ ∀ i, i < n → w.cell? ⟨b, off + i, none⟩ = some (.string (L.getD i ⟨#[]⟩))
set_option maxRecDepth 100000 in
theorem TxO.below {w w' : World} {a : Option Addr} {n : Nat} {L : List ByteArray} (h : TxO w a n L) (hb : Below w.heap.size w w') : TxO w' a n L := by
  refine ⟨h.len_eq, fun hp => ?_⟩
  obtain ⟨b, off, e, hlt, hc⟩ := h.spot hp
  exact ⟨b, off, e, Nat.lt_of_lt_of_le hlt hb.size, fun i hi => by rw [hb.cell hlt]; exact hc i hi⟩
set_option maxRecDepth 100000 in
theorem TxO.of_txt {w : World} {a : Option Addr} {n : Nat} {L : List ByteArray} (h : Txt w a n L) : TxO w a n L := by
  refine ⟨h.len_eq, fun hp => ?_⟩
  obtain ⟨b, e, hlt, hc⟩ := h.spot hp
  exact ⟨b, 0, e, hlt, fun i hi => by rw [Nat.zero_add]; exact hc i hi⟩
set_option maxRecDepth 100000 in
theorem TxO.rest {w : World} {a : Option Addr} {n cap : Nat} {L : List ByteArray} (h : TxO w a n L) (p : Nat) (hp : p ≤ n) (hc : n ≤ cap) : TxO w (slA a p cap) (n - p) (L.drop p) := by
  have hl := h.len_eq
  refine ⟨by rw [List.length_drop]; omega, fun hpos => ?_⟩
  obtain ⟨b, off, rfl, hlt, hcc⟩ := h.spot (by omega)
  refine ⟨b, off + p, by unfold slA; rw [if_neg (by omega)]; simp [Addr.add_lit], hlt, fun i hi => ?_⟩
  rw [Nat.add_assoc, hcc (p + i) (by omega)]
  simp [List.getD_eq_getElem?_getD, List.getElem?_drop]
/-- are the first k names -/
def nmK (L : List ByteArray) (k : Nat) : Bool := (L.take k).all nameB
set_option maxRecDepth 100000 in
theorem nmK_step {L : List ByteArray} {k : Nat} (h : k < L.length) : nmK L (k + 1) = (nmK L k && nameB (L.getD k ⟨#[]⟩)) := by
  unfold nmK
  rw [List.take_add_one, List.getD_eq_getElem?_getD, List.getElem?_eq_getElem h, List.all_append]
  simp
set_option maxHeartbeats 800000 in
set_option maxRecDepth 100000 in
theorem rnames_any (a : Option Addr) (n c : Nat) (L : List ByteArray) (w : World) (h : TxO w a n L) (hn : n ≤ 1000) (hs : ∀ q ∈ L, q.size ≤ 1000000) :
    Calls Tryd.prog 31 #[.slice a n c] w fun e w' => e = .returned (.bool (L.all nameB)) ∧ w = w' := by
  have hl := h.len_eq
  have HALL : Bx (L.all nameB = nmK L n) := ⟨by unfold nmK; rw [List.take_of_length_le (by omega)]⟩
  rw [HALL.out]
  have HM : Bx (∀ k, k ≤ n → nmK L k = false → nmK L n = false) := ⟨fun k hk h9 => by
    unfold nmK at h9 ⊢
    rw [List.all_eq_false] at h9 ⊢
    obtain ⟨x, hx, hf⟩ := h9
    refine ⟨x, ?_, hf⟩
    exact (List.take_subset_take_left L hk) hx⟩
  have HN := Bx.mk hn
  have HL := Bx.mk hl
  have HS := Bx.mk hs
  have HH := Bx.mk h
  clear h hl hs HALL
  go_enter Tryd.func31, Tryd.ntmps31
  go_wp2_with fail
  go_loopw [3] (fun i wr => ∃ k : Nat, k ≤ n ∧ i = .int .i64 k ∧ wr = w ∧ Bx (nmK L k = true)) (fun i _ => n - (intOf i).toNat)
  case atStart => exact ⟨0, Nat.zero_le _, rfl, rfl, ⟨rfl⟩⟩
  case round =>
    obtain ⟨k, hk, rfl, hwr, HK⟩ := hrel
    subst hwr
    by_cases hlt : k < n
    · obtain ⟨b, off, rfl, _, hc⟩ := HH.out.spot (by omega)
      have hx := hc k hlt
      have hki : (k : Int) < (n : Int) := by omega
      have hk4 : (k : Int) + 1 ≤ 9223372036854775807 := by omega
      have HST := Bx.mk (nmK_step (L := L) (k := k) (by have := HL.out; omega))
      have hqz : (L.getD k ⟨#[]⟩).size ≤ 1000000 := by
        rw [List.getD_eq_getElem?_getD, List.getElem?_eq_getElem (by have := HL.out; omega : k < L.length)]
        exact HS.out _ (List.getElem_mem _)
      have C1 := Bx.mk (refname_any (L.getD k ⟨#[]⟩) wr (by omega))
      have HLT := Bx.mk hlt
      clear hc hqz
      generalize L.getD k ⟨#[]⟩ = q at *
      cases hq : nameB q with
      | true =>
        rw [hq] at C1 HST
        have HK1 : Bx (nmK L (k + 1) = true) := ⟨by rw [HST.out, HK.out]; rfl⟩
        clear hq HST
        go_wp2_with fail
        refine C1.out.mono ?_
        rintro e w' ⟨rfl, hw⟩
        subst hw
        go_wp2_with fail
        go_roundw
        case rel => exact ⟨k + 1, by have := HLT.out; omega, by go_num, (by first | rfl | trivial), HK1⟩
        case measure => have := HLT.out; simp [intOf]; omega
      | false =>
        rw [hq] at C1 HST
        have HF : Bx (nmK L n = false) := ⟨HM.out (k + 1) (by omega) (by rw [HST.out, HK.out]; rfl)⟩
        clear hq HST
        go_wp2_with fail
        refine C1.out.mono ?_
        rintro e w' ⟨rfl, hw⟩
        subst hw
        go_wp2_with fail
        go_ret
        exact ⟨by rw [HF.out]; rfl, rfl⟩
    · have hki : ¬ (k : Int) < (n : Int) := by omega
      obtain rfl : k = n := by omega
      go_wp2_with fail
      go_ret
      exact ⟨by rw [HK.out]; rfl, rfl⟩
/-- the first two numbers, where all are numbers -/
def nuV (L : List ByteArray) : Int × Int × Bool :=
  if L.all (fun q => (rdB q).isSome) = true then ((rdB (L.getD 0 ⟨#[]⟩)).getD 0, (rdB (L.getD 1 ⟨#[]⟩)).getD 0, true) else (0, 0, false)
set_option maxRecDepth 100000 in
theorem rdB_nil : rdB ⟨#[]⟩ = none := by decide +kernel
set_option maxRecDepth 100000 in
theorem nu_no {L : List ByteArray} {k : Nat} (h : k < L.length) (hq : rdB (L.getD k ⟨#[]⟩) = none) : nuV L = (0, 0, false) := by
  unfold nuV
  rw [if_neg]
  intro hall
  rw [List.getD_eq_getElem?_getD, List.getElem?_eq_getElem h] at hq
  have := List.all_eq_true.1 hall _ (List.getElem_mem h)
  simp only [Option.getD_some] at hq
  rw [hq] at this; cases this
set_option maxRecDepth 100000 in
theorem nu_yes {L : List ByteArray} (h : ∀ j, j < L.length → (rdB (L.getD j ⟨#[]⟩)).isSome = true) : nuV L = ((rdB (L.getD 0 ⟨#[]⟩)).getD 0, (rdB (L.getD 1 ⟨#[]⟩)).getD 0, true) := by
  unfold nuV
  rw [if_pos]
  rw [List.all_eq_true]
  intro q hq
  obtain ⟨j, hj, rfl⟩ := List.getElem_of_mem hq
  have := h j hj
  rw [List.getD_eq_getElem?_getD, List.getElem?_eq_getElem hj] at this
  exact this
/-- the two numbers that are kept -/
def NuA (w : World) (g : Nat) (L : List ByteArray) (k : Nat) : Prop := ∃ cs : Array Value, w.heap[g]? = some (.cells cs 68 (0, 0)) ∧ cs.size = 2 ∧ ∀ j, j < 2 → cs[j]? = some (.int .i64 (if j < k then (rdB (L.getD j ⟨#[]⟩)).getD 0 else 0))
set_option maxRecDepth 100000 in
theorem NuA.put {w : World} {g k : Nat} {L : List ByteArray} (h : NuA w g L k) (hk : k < 2) : NuA (w.setCell ⟨g, k, none⟩ (.int .i64 ((rdB (L.getD k ⟨#[]⟩)).getD 0))) g L (k + 1) := by
  obtain ⟨cs, h1, h2, h3⟩ := h
  refine ⟨cs.setIfInBounds k (.int .i64 ((rdB (L.getD k ⟨#[]⟩)).getD 0)), heap_setCell_same w g k _ _ _ h1, by simp [h2], fun j hj => ?_⟩
  rw [Array.getElem?_setIfInBounds]
  by_cases e : k = j
  · subst e
    rw [if_pos rfl, if_pos (by omega), if_pos (by omega)]
  · rw [if_neg e, h3 j hj]
    by_cases hj2 : j < k
    · rw [if_pos hj2, if_pos (by omega)]
    · rw [if_neg hj2, if_neg (by omega)]
set_option maxRecDepth 100000 in
theorem NuA.at {w : World} {g k : Nat} {L : List ByteArray} (h : NuA w g L k) (j : Nat) (hj : j < 2) : w.cell? ⟨g, j, none⟩ = some (.int .i64 (if j < k then (rdB (L.getD j ⟨#[]⟩)).getD 0 else 0)) ∧ w.frozen? ⟨g, j, none⟩ = false := by
  obtain ⟨cs, h1, _, h3⟩ := h
  exact ⟨by rw [cell_of_row w g j cs _ (0, 0) h1]; exact h3 j hj, frozen_of_row _ _ j _ _ h1⟩
def NuP (T : Int × Int × Bool) (w : World) (e : Ending) (w' : World) : Prop := e = .returned (.tuple #[.int .i64 T.1, .int .i64 T.2.1, .bool T.2.2]) ∧ Below w.heap.size w w'
set_option maxRecDepth 100000 in
set_option maxHeartbeats 2000000 in
theorem rnumbers_any (a : Option Addr) (n c : Nat) (L : List ByteArray) (w : World) (h : TxO w a n L) (hn : n ≤ 2) (hs : ∀ q ∈ L, q.size ≤ 1000000) :
    Calls Tryd.prog 30 #[.slice a n c] w (NuP (nuV L) w) := by
  have hl := h.len_eq
  have HN := Bx.mk hn
  have HL := Bx.mk hl
  have HS := Bx.mk hs
  have HH := Bx.mk h
  have HA0 : Bx (NuA (w.alloc (.cells #[.int .i64 0, .int .i64 0] 68)) w.heap.size L 0) := ⟨⟨_, heap_alloc_new w _, rfl, fun j hj => by
    rw [if_neg (by omega)]
    match j, hj with
    | 0, _ => rfl
    | 1, _ => rfl⟩⟩
  have HB0 : Bx (Below w.heap.size w (w.alloc (.cells #[.int .i64 0, .int .i64 0] 68))) := ⟨(Below.refl _ _).alloc (Nat.le_refl _) _⟩
  clear h hl hs hn
  go_enter Tryd.func30, Tryd.ntmps30
  go_wp2_with fail
  go_loopw [6] (fun i wr => ∃ k : Nat, k ≤ n ∧ i = .int .i64 k ∧ Bx (NuA wr w.heap.size L k) ∧ Bx (Below w.heap.size w wr) ∧ Bx (∀ j, j < k → (rdB (L.getD j ⟨#[]⟩)).isSome = true)) (fun i _ => n - (intOf i).toNat)
  case atStart => exact ⟨0, Nat.zero_le _, rfl, HA0, HB0, ⟨fun j hj => absurd hj (Nat.not_lt_zero j)⟩⟩
  case round =>
    obtain ⟨k, hk, rfl, HA, HB, HK⟩ := hrel
    by_cases hlt : k < n
    · obtain ⟨b, off, rfl, _, hc⟩ := (HH.out.below HB.out).spot (by omega)
      have hx := hc k hlt
      have hki : (k : Int) < (n : Int) := by omega
      have hk4 : (k : Int) + 1 ≤ 9223372036854775807 := by have := HN.out; omega
      have hk2 : (k : Int) < 2 := by have := HN.out; omega
      have hk2n : k < 2 := by have := HN.out; omega
      have hqz : (L.getD k ⟨#[]⟩).size ≤ 1000000 := by
        rw [List.getD_eq_getElem?_getD, List.getElem?_eq_getElem (by have := HL.out; omega : k < L.length)]
        exact HS.out _ (List.getElem_mem _)
      have C1 := Bx.mk ((refread_any (L.getD k ⟨#[]⟩) wr (by omega)).mono (R' := fun e w' => e = .returned (.tuple #[.int .i64 ((rdB (L.getD k ⟨#[]⟩)).getD 0), .bool (rdB (L.getD k ⟨#[]⟩)).isSome]) ∧ wr = w') fun e w' h => ⟨h.1, h.2.symm⟩)
      obtain ⟨ca, fa⟩ := HA.out.at k hk2n
      rw [if_neg (by omega)] at ca
      have HP := Bx.mk (HA.out.put hk2n)
      have HNO : Bx (rdB (L.getD k ⟨#[]⟩) = none → nuV L = (0, 0, false)) := ⟨fun h9 => nu_no (by have := HL.out; omega) h9⟩
      have HKK : Bx ((rdB (L.getD k ⟨#[]⟩)).isSome = true → ∀ j, j < k + 1 → (rdB (L.getD j ⟨#[]⟩)).isSome = true) := ⟨fun h9 j hj => by
        by_cases e : j = k
        · rw [e]; exact h9
        · exact HK.out j (by omega)⟩
      have HLT := Bx.mk hlt
      clear hc hqz HA hk2n
      generalize L.getD k ⟨#[]⟩ = q at *
      cases hq : rdB q with
      | none =>
        rw [hq] at C1
        have HF := Bx.mk (HNO.out hq)
        clear hq HP HKK
        go_wp2_with fail
        refine C1.out.mono ?_
        rintro e w' ⟨rfl, hw⟩
        subst hw
        go_wp2_with fail
        go_ret3
        exact ⟨by rw [HF.out]; rfl, HB.out⟩
      | some v =>
        rw [hq] at C1 HP
        have HK2 := Bx.mk (HKK.out (by rw [hq]; rfl))
        have HB2 : Bx (Below w.heap.size w (wr.setCell ⟨w.heap.size, k, none⟩ (.int .i64 v))) := ⟨below_setCells (vs := [.int .i64 v]) (o := k) HB.out _ (Nat.le_refl _)⟩
        simp only [Option.getD_some] at HP
        clear hq HNO HKK
        go_wp2_with fail
        refine C1.out.mono ?_
        rintro e w' ⟨rfl, hw⟩
        subst hw
        go_wp2_with fail
        go_roundw
        case rel => exact ⟨k + 1, by have := HLT.out; omega, by go_num, HP, HB2, HK2⟩
        case measure => have := HLT.out; simp [intOf]; omega
    · have hki : ¬ (k : Int) < (n : Int) := by omega
      obtain ⟨ca, _⟩ := HA.out.at 0 (by omega)
      obtain ⟨cb, _⟩ := HA.out.at 1 (by omega)
      have HF : Bx (nuV L = ((rdB (L.getD 0 ⟨#[]⟩)).getD 0, (rdB (L.getD 1 ⟨#[]⟩)).getD 0, true)) := ⟨nu_yes (fun j hj => HK.out j (by have := HL.out; omega))⟩
      have HV : Bx ((if 0 < k then (rdB (L.getD 0 ⟨#[]⟩)).getD 0 else 0) = (rdB (L.getD 0 ⟨#[]⟩)).getD 0 ∧ (if 1 < k then (rdB (L.getD 1 ⟨#[]⟩)).getD 0 else 0) = (rdB (L.getD 1 ⟨#[]⟩)).getD 0) := ⟨by
        have hz : ∀ j, k ≤ j → (rdB (L.getD j ⟨#[]⟩)).getD 0 = 0 := fun j hj => by
          rw [List.getD_eq_getElem?_getD, List.getElem?_eq_none (by have := HL.out; omega)]
          show (rdB ⟨#[]⟩).getD 0 = 0
          rw [rdB_nil]; rfl
        constructor
        · by_cases h0 : 0 < k
          · rw [if_pos h0]
          · rw [if_neg h0, hz 0 (by omega)]
        · by_cases h0 : 1 < k
          · rw [if_pos h0]
          · rw [if_neg h0, hz 1 (by omega)]⟩
      rw [HV.out.1] at ca
      rw [HV.out.2] at cb
      generalize (rdB (L.getD 0 ⟨#[]⟩)).getD 0 = V0 at *
      generalize (rdB (L.getD 1 ⟨#[]⟩)).getD 0 = V1 at *
      clear HV HK HA
      go_wp2_with fail
      go_quiet (fail)
      go_wp2_with fail
      go_ret3
      exact ⟨by rw [HF.out]; rfl, below_drewN HB.out _⟩
end Go.Proofs.YtpfijaojgeceeaaDoor
