/- The document's own queue. -/
import Derived.Test.YtedingegmiacmaaBvMem
import Derived.Test.YtedingegmiacmaaQueueMath
import Derived.Test.YtedingegmiacmaaAppAt
import Derived.Test.YtedingegmiacmaaUpMem
import Derived.BigQuiet
import Derived.Deep.CutRange
namespace Go.Proofs.Ytedingegmiacmaa
open Go.RowKit
set_option linter.unusedVariables false

set_option maxRecDepth 100000 in
theorem Try.infoI20 : (Try.prog.info? 3).map (fun i => (i.zero, i.size, i.bytes)) = some (some (.int .i64 0), 1, 8) := by kernel_rfl
set_option maxRecDepth 100000 in
theorem q_take (L : List Int) (k : Nat) (h : k < L.length) : L.take (k + 1) = L.take k ++ [L.getD k 0] := by
  rw [List.take_add_one, List.getElem?_eq_getElem h, List.getD_eq_getElem?_getD, List.getElem?_eq_getElem h]; rfl
/-- what without answers -/
def WoP (L : List Int) (w : World) (e : Ending) (w' : World) : Prop := ∃ v, e = .returned v ∧ w'.ownsRow w.heap.size 3 1 v L.length (L.flatMap ivC) ∧ Below w.heap.size w w'
set_option maxHeartbeats 4000000 in
set_option maxRecDepth 100000 in
theorem without_any (a : Option Addr) (n c : Nat) (L : List Int) (j : Int) (w : World) (h : Ivs w a n c L) (hn : n ≤ 1000) :
    Calls Try.prog 26 #[.slice a n c, .int .i64 j] w (WoP (wout L j) w) := by
  have H := Bx.mk h
  have HLEN : Bx (L.length = n) := ⟨h.len_eq⟩
  obtain ⟨i0, hi, hz0, hz1, hz2⟩ := info_parts Try.infoI20
  have HINF := Bx.mk (And.intro hi (And.intro hz0 (And.intro hz1 hz2)))
  clear h hi hz0 hz1 hz2
  go_enter Try.func26, Try.ntmps26
  go_wp2_with fail
  go_loopw [5, 6] (fun v i wr => ∃ k : Nat, k ≤ n ∧ i = .int .i64 k ∧ Bx (wr.ownsRow w.heap.size 3 1 v (wout (L.take k) j).length ((wout (L.take k) j).flatMap ivC)) ∧ Bx (Below w.heap.size w wr)) (fun _ i _ => n - (intOf i).toNat)
  case atStart => exact ⟨0, Nat.zero_le _, rfl, ⟨World.ownsRow_nil _ _ _ _⟩, ⟨Below.refl _ _⟩⟩
  case round =>
    obtain ⟨k, hk, rfl, HOW, HB⟩ := hrel
    obtain ⟨vF, hvF⟩ : ∃ x, x = u5 := ⟨_, rfl⟩
    subst hvF
    by_cases hlt : k < n
    · have hkI : (k : Int) < (n : Int) := by omega
      have HTK : Bx (wout (L.take (k + 1)) j = wout (L.take k) j ++ wout [L.getD k 0] j) := ⟨by rw [q_take L k (by rw [HLEN.out]; exact hlt), wout_app]⟩
      have hwl : (wout (L.take k) j).length ≤ 1000 := Nat.le_trans (wout_le _ _) (by rw [List.length_take]; omega)
      obtain ⟨b1, o1, rfl, _, x0⟩ := (H.out.below HB.out).iv k hlt 0
      generalize L.getD k 0 = x at x0 HTK
      by_cases hxj : x = j
      · have hq : (x != j) = false := by simp [hxj]
        have HNX : Bx (wout (L.take (k + 1)) j = wout (L.take k) j) := ⟨by rw [HTK.out, hxj]; simp [wout]⟩
        clear hxj
        go_wp2_with fail
        go_roundw
        case rel => exact ⟨k + 1, by omega, by go_num, ⟨by rw [HNX.out]; exact HOW.out⟩, HB⟩
        case measure => simp [intOf]; omega
      · have hq : (x != j) = true := by simpa using hxj
        have HNX : Bx (wout (L.take (k + 1)) j = wout (L.take k) j ++ [x]) := ⟨by rw [HTK.out]; simp [wout, hxj]⟩
        have hbA : Below wr.heap.size wr (wr.alloc (.cells #[.int .i64 x] 3)) := (Below.refl _ _).alloc (Nat.le_refl _) _
        have HNW := Bx.mk (World.news_of_block (heap_alloc_new wr (.cells #[.int .i64 x] 3)))
        have HOA := Bx.mk (owns_below HOW.out hbA)
        have HBA := Bx.mk (bstep HB.out hbA)
        have HSZ := Bx.mk HBA.out.size
        have HLO : Bx (∀ i, vF.ownBlock = some i → w.heap.size ≤ i) := ⟨fun i e => (HOW.out.lt i e).1⟩
        have hi := HINF.out.1
        have hz0 := HINF.out.2.1
        have hz1 := HINF.out.2.2.1
        have hz2 := HINF.out.2.2.2
        clear hxj hbA
        go_wp2_with (at_builtin; refine wpList_append_own _ rfl _ _ 36 rfl w.heap.size 3 i0 (.int .i64 0) 1 8 Try.underlying36 hi hz0 hz1 hz2 rfl (by decide) _ (wout (L.take k) j).length ((wout (L.take k) j).flatMap ivC) rfl HOA.out ⟨wr.heap.size, 0, none⟩ 1 1 [.int .i64 x] rfl rfl HNW.out (by simp [Value.oneCell']) (by unfold maxLen; omega) (by omega) HSZ.out ?_)
        intro v1 w1 ho1 hg1 _
        have HO1 : Bx (w1.ownsRow w.heap.size 3 1 v1 (wout (L.take (k + 1)) j).length ((wout (L.take (k + 1)) j).flatMap ivC)) := ⟨by rw [HNX.out, List.length_append, List.flatMap_append]; exact ho1⟩
        have HB1 := Bx.mk (HBA.out.grown hg1 HSZ.out HLO.out)
        clear ho1 hg1 hi hz0 hz1 hz2
        go_wp2_with fail
        go_roundw
        case rel => exact ⟨k + 1, by omega, by go_num, HO1, HB1⟩
        case measure => simp [intOf]; omega
    · have hkI : ¬ (k : Int) < (n : Int) := by omega
      have HTA : Bx (L.take k = L) := ⟨List.take_of_length_le (by rw [HLEN.out]; omega)⟩
      rw [HTA.out] at HOW
      go_wp2_with fail
      go_ret
      exact ⟨_, rfl, HOW.out, HB.out⟩
/-- the place of who has a turn -/
def trI (W : List Bool) (last : Int) : Int := match trn W last with | some k => (k : Int) | none => 0
set_option maxRecDepth 100000 in
theorem tr_yes19 {W : List Bool} {last : Int} {k : Nat} (h : trn W last = some k) : trI W last = (k : Int) ∧ (trn W last).isSome = true := by unfold trI; rw [h]; exact ⟨rfl, rfl⟩
set_option maxRecDepth 100000 in
theorem tr_no19 {W : List Bool} {last : Int} (h : trn W last = none) : trI W last = 0 ∧ (trn W last).isSome = false := by unfold trI; rw [h]; exact ⟨rfl, rfl⟩
set_option maxHeartbeats 4000000 in
set_option maxRecDepth 100000 in
theorem refturn19_any (a : Option Addr) (n c : Nat) (K : List Bool) (last : Int) (w : World) (h : Bvs w a n c K) :
    Calls Try.prog 21 #[.slice a n c, .int .i64 last] w fun e w' => e = .returned (.tuple #[.int .i64 (trI K last), .bool (trn K last).isSome]) ∧ w' = w := by
  have H := Bx.mk h
  have HLEN : Bx (K.length = n) := ⟨h.len_eq⟩
  have hn := Nat.le_trans h.le_cap h.cap_le
  unfold maxLen at hn
  clear h
  by_cases hl : 0 ≤ last ∧ last < (n : Int)
  · obtain ⟨m, rfl⟩ : ∃ m : Nat, last = m := ⟨last.toNat, by omega⟩
    have hmn : m < n := by omega
    have hmI : (m : Int) < (n : Int) := by omega
    have HTR : Bx (trn K (m : Int) = (match fstW K (m + 1) with | some i => some i | none => fstW K 0)) := ⟨by unfold trn; rw [if_pos (by rw [HLEN.out]; exact hl)]; rfl⟩
    clear hl
    go_enter Try.func21, Try.ntmps21
    go_wp2_with fail
    go_loop [6] (fun i => ∃ k : Nat, k ≤ n ∧ i = .int .i64 k ∧ Bx (fstW K k = fstW K (m + 1))) (fun i => n - (intOf i).toNat)
    case atStart => exact ⟨m + 1, by omega, by go_num, ⟨rfl⟩⟩
    case round =>
      obtain ⟨k, hk, rfl, HFK⟩ := hrel
      by_cases hlt : k < n
      · have hkI : (k : Int) < (n : Int) := by omega
        obtain ⟨b1, o1, rfl, _, x0⟩ := H.out.bv k hlt
        cases hx : K.getD k false with
        | true =>
          rw [hx] at x0
          have HT : Bx (trI K (m : Int) = (k : Int) ∧ (trn K (m : Int)).isSome = true) := ⟨tr_yes19 (by rw [HTR.out, ← HFK.out, fstW_yes K k (by rw [HLEN.out]; exact hlt) hx])⟩
          clear hx
          go_wp2_with fail
          go_ret2
          exact ⟨by rw [HT.out.1, HT.out.2]; rfl, rfl⟩
        | false =>
          rw [hx] at x0
          have HF2 : Bx (fstW K (k + 1) = fstW K (m + 1)) := ⟨(fstW_no K k (by rw [HLEN.out]; exact hlt) hx).symm.trans HFK.out⟩
          clear hx
          go_wp2_with fail
          go_round
          case rel => exact ⟨k + 1, by omega, by go_num, HF2⟩
          case measure => simp [intOf]; omega
      · have hkI : ¬ (k : Int) < (n : Int) := by omega
        have HTW : Bx (trn K (m : Int) = fstW K 0) := ⟨by rw [HTR.out, ← HFK.out, fstW_end K k (by rw [HLEN.out]; omega)]⟩
        clear HTR HFK
        go_wp2_with fail
        go_loop [7] (fun i => ∃ k : Nat, k ≤ n ∧ i = .int .i64 k ∧ Bx (fstW K k = fstW K 0)) (fun i => n - (intOf i).toNat)
        case atStart => exact ⟨0, Nat.zero_le _, rfl, ⟨rfl⟩⟩
        case round =>
          obtain ⟨k, hk, rfl, HFW⟩ := hrel
          by_cases hlt : k < n
          · have hkI : (k : Int) < (n : Int) := by omega
            obtain ⟨b1, o1, rfl, _, x0⟩ := H.out.bv k hlt
            cases hx : K.getD k false with
            | true =>
              rw [hx] at x0
              have HT := Bx.mk (tr_yes19 (HTW.out.trans (HFW.out.symm.trans (fstW_yes K k (by rw [HLEN.out]; exact hlt) hx))))
              clear hx
              go_wp2_with fail
              go_ret2
              exact ⟨by rw [HT.out.1, HT.out.2]; rfl, rfl⟩
            | false =>
              rw [hx] at x0
              have HF2 : Bx (fstW K (k + 1) = fstW K 0) := ⟨(fstW_no K k (by rw [HLEN.out]; exact hlt) hx).symm.trans HFW.out⟩
              clear hx
              go_wp2_with fail
              go_round
              case rel => exact ⟨k + 1, by omega, by go_num, HF2⟩
              case measure => simp [intOf]; omega
          · have hkI : ¬ (k : Int) < (n : Int) := by omega
            have HT := Bx.mk (tr_no19 (HTW.out.trans (HFW.out.symm.trans (fstW_end K k (by rw [HLEN.out]; omega)))))
            go_wp2_with fail
            go_ret2
            exact ⟨by rw [HT.out.1, HT.out.2]; rfl, rfl⟩
  · have HTW : Bx (trn K last = fstW K 0) := ⟨by unfold trn; rw [if_neg (by rw [HLEN.out]; exact hl)]⟩
    have hg : decide (0 ≤ last) = false ∨ (decide (0 ≤ last) = true ∧ decide (last < (n : Int)) = false) := by
      by_cases h0 : 0 ≤ last
      · exact .inr ⟨decide_eq_true h0, decide_eq_false (fun h => hl ⟨h0, h⟩)⟩
      · exact .inl (decide_eq_false h0)
    clear hl
    rcases hg with hg | ⟨hg, hg2⟩
    · go_enter Try.func21, Try.ntmps21
      go_wp2_with fail
      go_loop [7] (fun i => ∃ k : Nat, k ≤ n ∧ i = .int .i64 k ∧ Bx (fstW K k = fstW K 0)) (fun i => n - (intOf i).toNat)
      case atStart => exact ⟨0, Nat.zero_le _, rfl, ⟨rfl⟩⟩
      case round =>
        obtain ⟨k, hk, rfl, HFW⟩ := hrel
        by_cases hlt : k < n
        · have hkI : (k : Int) < (n : Int) := by omega
          obtain ⟨b1, o1, rfl, _, x0⟩ := H.out.bv k hlt
          cases hx : K.getD k false with
          | true =>
            rw [hx] at x0
            have HT := Bx.mk (tr_yes19 (HTW.out.trans (HFW.out.symm.trans (fstW_yes K k (by rw [HLEN.out]; exact hlt) hx))))
            clear hx
            go_wp2_with fail
            go_ret2
            exact ⟨by rw [HT.out.1, HT.out.2]; rfl, rfl⟩
          | false =>
            rw [hx] at x0
            have HF2 : Bx (fstW K (k + 1) = fstW K 0) := ⟨(fstW_no K k (by rw [HLEN.out]; exact hlt) hx).symm.trans HFW.out⟩
            clear hx
            go_wp2_with fail
            go_round
            case rel => exact ⟨k + 1, by omega, by go_num, HF2⟩
            case measure => simp [intOf]; omega
        · have hkI : ¬ (k : Int) < (n : Int) := by omega
          have HT := Bx.mk (tr_no19 (HTW.out.trans (HFW.out.symm.trans (fstW_end K k (by rw [HLEN.out]; omega)))))
          go_wp2_with fail
          go_ret2
          exact ⟨by rw [HT.out.1, HT.out.2]; rfl, rfl⟩
    · go_enter Try.func21, Try.ntmps21
      go_wp2_with fail
      go_loop [7] (fun i => ∃ k : Nat, k ≤ n ∧ i = .int .i64 k ∧ Bx (fstW K k = fstW K 0)) (fun i => n - (intOf i).toNat)
      case atStart => exact ⟨0, Nat.zero_le _, rfl, ⟨rfl⟩⟩
      case round =>
        obtain ⟨k, hk, rfl, HFW⟩ := hrel
        by_cases hlt : k < n
        · have hkI : (k : Int) < (n : Int) := by omega
          obtain ⟨b1, o1, rfl, _, x0⟩ := H.out.bv k hlt
          cases hx : K.getD k false with
          | true =>
            rw [hx] at x0
            have HT := Bx.mk (tr_yes19 (HTW.out.trans (HFW.out.symm.trans (fstW_yes K k (by rw [HLEN.out]; exact hlt) hx))))
            clear hx
            go_wp2_with fail
            go_ret2
            exact ⟨by rw [HT.out.1, HT.out.2]; rfl, rfl⟩
          | false =>
            rw [hx] at x0
            have HF2 : Bx (fstW K (k + 1) = fstW K 0) := ⟨(fstW_no K k (by rw [HLEN.out]; exact hlt) hx).symm.trans HFW.out⟩
            clear hx
            go_wp2_with fail
            go_round
            case rel => exact ⟨k + 1, by omega, by go_num, HF2⟩
            case measure => simp [intOf]; omega
        · have hkI : ¬ (k : Int) < (n : Int) := by omega
          have HT := Bx.mk (tr_no19 (HTW.out.trans (HFW.out.symm.trans (fstW_end K k (by rw [HLEN.out]; omega)))))
          go_wp2_with fail
          go_ret2
          exact ⟨by rw [HT.out.1, HT.out.2]; rfl, rfl⟩
end Go.Proofs.Ytedingegmiacmaa
