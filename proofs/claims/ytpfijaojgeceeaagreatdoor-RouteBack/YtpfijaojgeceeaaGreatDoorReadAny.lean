/- What ReadDec answers. -/
import Derived.Test.YtpfijaojgeceeaaGreatDoorAuaq
import Derived.Test.YtpfijaojgeceeaaGreatDoorDecAny
import Derived.Test.YtpfijaojgeceeaaGreatDoorShelfAtoi
namespace Go.Proofs.YtpfijaojgeceeaaGreatDoor
open Go.RowKit
set_option linter.unusedVariables false

set_option maxRecDepth 100000 in
theorem bytes_lowT (w : World) (e : TypeId) (s : ByteArray) : Below w.heap.size w (Lib.bytesWorld w e s) :=
  ⟨rfl, rfl, rfl, by rw [Lib.bytesWorld_size]; omega, fun k hk => Lib.bytesWorld_at_old w e s k hk⟩
set_option maxRecDepth 100000 in
theorem below_bytes {w w' : World} (h : w' = w ∨ ∃ t, w' = Lib.bytesWorld w 5 t) : Below w.heap.size w w' := by
  rcases h with rfl | ⟨t, rfl⟩
  · exact Below.refl _ _
  · exact bytes_lowT w _ t
set_option maxRecDepth 100000 in
theorem atoi_ok (s : ByteArray) (v : Int) (w : World) (hs : s.size ≤ 1099511627776) (h : Lib.atoiAll s.data.toList = .ok v) :
    Calls Tryz.prog 54 #[.string s] w fun e w' => e = .returned (.tuple #[.int .i64 v, .nilIface]) ∧ Below w.heap.size w w' := by
  refine Calls.mono (Any.strconv_Atoi_ok Tryz.laysC172 s (by omega) v h w) ?_
  rintro e w' ⟨he, hw⟩
  exact ⟨he, below_bytes hw⟩
set_option maxRecDepth 100000 in
/-- where a text is no number: some number and an error -/
theorem atoi_bad (s : ByteArray) (w : World) (hs : s.size ≤ 1099511627776) (h : ∀ v, Lib.atoiAll s.data.toList ≠ .ok v) (he : Errs w) :
    Calls Tryz.prog 54 #[.string s] w fun e w' => (∃ x T p, e = .returned (.tuple #[.int .i64 x, .iface T p])) ∧ Below w.heap.size w w' := by
  rcases hA : Lib.atoiAll s.data.toList with v | _ | _
  · exact absurd hA (h v)
  · obtain ⟨tp, p, hv⟩ := he.syn
    refine Calls.mono (Any.strconv_Atoi_syntax_var Tryz.laysC172 s (by omega) hA tp p w hv) ?_
    rintro e w' ⟨N, he, _, _, hb⟩
    exact ⟨⟨_, _, _, he⟩, hb⟩
  · obtain ⟨tp, p, hv⟩ := he.rng
    refine Calls.mono (Any.strconv_Atoi_range_var Tryz.laysC172 s (by omega) hA tp p w hv) ?_
    rintro e w' ⟨N, he, _, _, hb⟩
    exact ⟨⟨_, _, _, he⟩, hb⟩
set_option maxRecDepth 100000 in
theorem rdv_bad {l : List UInt8} (h : ∀ v, Lib.atoiAll l ≠ .ok v) : rdv l = none := by
  unfold rdv
  split
  · rename_i v hv; exact absurd hv (h v)
  · rfl
set_option maxHeartbeats 400000 in
theorem read_anyT (s : ByteArray) (w : World) (hs : s.size ≤ 1099511627776) (ht : Tens w) (he : Errs w) :
    Calls Tryz.prog 41 #[.string s] w fun e w' => RdPT s e ∧ Below w.heap.size w w' := by
  by_cases hex : ∃ v, Lib.atoiAll s.data.toList = .ok v
  · obtain ⟨v, hA⟩ := hex
    have hbd := Lib.atoiAll_bounds hA
    have HA : Hid (Lib.atoiAll s.data.toList = .ok v) := hA
    clear hA
    go_enter Tryz.func41, Tryz.ntmps41
    go_wp2_with fail
    refine (atoi_ok s v _ hs HA.out).mono ?_
    rintro e w1 ⟨rfl, hb1⟩
    have ht1 := ht.below hb1
    clear ht he
    by_cases hneg : v < 0
    · have HU : Hid (rdv s.data.toList = none) := by
        show _ = _; unfold rdv; rw [HA.out]; simp only []; rw [if_neg (by omega)]
      have g1 : decide (v < 0) = true := by simpa using hneg
      go_wp2_with fail
      go_ret2
      exact ⟨rd_none HU.out rfl, hb1⟩
    · have g1 : decide (v < 0) = false := by simpa using hneg
      go_wp2_with fail
      refine (dec_any v hbd.1 hbd.2 _ ht1).mono ?_
      rintro e w2 ⟨rfl, hb2⟩
      have hb := bstep hb1 hb2
      have hq := str_beq (decS v) s
      by_cases hy : decS v = s
      · have HU : Hid (rdv s.data.toList = some v) := rdv_yes (by omega) hbd.2 hy
        rw [decide_eq_true hy] at hq
        clear hy hb1 hb2 ht1
        change ((⟨(Lib.itoa v).toArray⟩ : ByteArray).toList == s.toList) = _ at hq
        generalize (⟨(Lib.itoa v).toArray⟩ : ByteArray) = S at hq
        go_wp2_with fail
        go_ret2
        exact ⟨rd_some HU.out rfl, hb⟩
      · have HU : Hid (rdv s.data.toList = none) := by
          show _ = _; unfold rdv; rw [HA.out]; simp only []; rw [if_neg]
          intro h; apply hy; apply ba_ext; exact h.2
        rw [decide_eq_false hy] at hq
        clear hy hb1 hb2 ht1
        change ((⟨(Lib.itoa v).toArray⟩ : ByteArray).toList == s.toList) = _ at hq
        generalize (⟨(Lib.itoa v).toArray⟩ : ByteArray) = S at hq
        go_wp2_with fail
        go_ret2
        exact ⟨rd_none HU.out rfl, hb⟩
  · have HA : Hid (∀ v, Lib.atoiAll s.data.toList ≠ .ok v) := fun v h => hex ⟨v, h⟩
    have HU : Hid (rdv s.data.toList = none) := rdv_bad HA.out
    have HE : Hid (Errs w) := he
    clear hex he ht
    go_enter Tryz.func41, Tryz.ntmps41
    go_wp2_with fail
    refine (atoi_bad s _ hs HA.out HE.out).mono ?_
    rintro e w1 ⟨⟨x, T, p, rfl⟩, hb1⟩
    go_wp2_with fail
    go_ret2
    exact ⟨rd_none HU.out rfl, hb1⟩
end Go.Proofs.YtpfijaojgeceeaaGreatDoor
