/- For every int and every list of calls the law DiskPlays returns true and both read as they did (P9.1 to P9.4): what every row of calls answers, and which bytes there are behind each, is what the document's own disk answers. No condition. -/
import Derived.Test.YtihmfnndnjhpbaaRows
import Derived.Test.YtihmfnndnjhpbaaDoes9
import Derived.WalkKit
import Derived.ProofKit
import Derived.OpenShut
import Derived.ShutString
import Derived.ChangeOld
import Derived.Below
namespace Go.Proofs.Ytihmfnndnjhpbaa.diskPlays
open Go.ChangeShapes Go.WideShapes Go.ChangeAt Go.RowKit
open Go.ChangeMaps (open_string shut_string)
set_option linter.unusedVariables false

theorem own : ownKnob Try.prog.godebug = none := by kernel_rfl
theorem laidOut : laidOutB Try.prog = true := by kernel_rfl


set_option maxRecDepth 100000 in
set_option maxHeartbeats 1000000 in
theorem walk (sectors : Int) (a1 : Option Addr) (len1 cap1 : Nat) (L : List DoM) (w : World) (hsectors : I64 sectors) (hL : Dos w a1 len1 cap1 L) :
    Calls Try.prog 3 #[.int .i64 sectors, .slice a1 len1 cap1] w fun e w' => e = .returned (.bool true) ∧ Below w.heap.size w w' := by
  by_cases hbad : sectors < 1 ∨ 4096 < sectors
  · go_enter Try.func3, Try.ntmps3
    go_wp2_with fail
    refine (new_bad sectors _ hbad).mono ?_
    rintro e w' ⟨rfl, rfl⟩
    go_wp2_with fail
    refine (rnew_bad sectors _ hbad).mono ?_
    rintro e w' ⟨rfl, rfl⟩
    go_wp2_with fail
    refine (lives_any _).mono ?_
    rintro e w2 ⟨rfl, hb2⟩
    go_wp2
    go_ret
    exact ⟨rfl, hb2⟩
  · obtain ⟨n, rfl⟩ : ∃ n : Nat, sectors = n := ⟨sectors.toNat, by omega⟩
    have h1n : 1 ≤ n := by omega
    have h2n : n ≤ 4096 := by omega
    clear hbad
    go_enter Try.func3, Try.ntmps3
    go_wp2_with fail
    refine (new_any n _ h1n h2n).mono ?_
    rintro e w1 ⟨g, rfl, hD, hb1⟩
    go_wp2_with fail
    refine (rnew_any n _ h1n h2n).mono ?_
    rintro e w2 ⟨gx, rfl, hX, hb2⟩
    have hs1 := hb1.size
    have hPL0 : ∃ own ownx s, PL w w2 g gx own ownx s s 0 := ⟨_, _, _, bstep hb1 hb2, hD.below hb2, hX, fun k hk => hk.1, fun k hk => Nat.le_trans hs1 hk.1, fun k hd hx => by have h3 := hd.2; have h4 := hx.1; omega⟩
    have hL2 := hL.below (bstep hb1 hb2)
    clear hD hX hb1 hb2 hs1 hsectors
    go_wp2_with fail
    refine (few9_any a1 len1 cap1 L _ hL2).mono ?_
    rintro e w' ⟨⟨m, rfl, hm, hL3⟩, rfl⟩
    have HLW : Bx (Dos w a1 m cap1 (L.take 150)) := ⟨by
      by_cases hlen : 150 ≤ len1
      · have h1 := hL.take 150 hlen
        have e1 := hL3.len_eq
        have e2 := h1.len_eq
        rw [← e1, e2]; exact h1
      · have e0 : L.take 150 = L := List.take_of_length_le (by rw [hL.len_eq]; omega)
        have e1 := hL3.len_eq
        rw [e0] at e1 ⊢
        rw [← e1, hL.len_eq]; exact hL⟩
    generalize L.take 150 = T at HLW
    have hcm := hL3.cap_le
    have hcc := hL3.le_cap
    unfold maxLen at hcm
    clear hL hL2 hL3
    go_wp2
    go_loopw [9] (fun i wr => ∃ j : Nat, j ≤ m ∧ i = .int .i64 j ∧ ∃ own ownx s, PL w wr g gx own ownx s s j) (fun i _ => m - (intOf i).toNat)
    case atStart => exact ⟨0, Nat.zero_le _, rfl, hPL0⟩
    case round =>
      clear hPL0
      obtain ⟨j, hj, rfl, own, ownx, s, hPL⟩ := hrel
      by_cases hlt : j < m
      · have hjI : (j : Int) < (m : Int) := by omega
        obtain ⟨b, off, b2, l2, c2, b3, l3, c3, rfl, k0, k1, k2, k3, hV⟩ := HLW.out.at hPL.low j hlt
        generalize T.getD j doZ = k at k0 k1 hV
        obtain ⟨kd, x, bb, K⟩ := k
        dsimp only at k0 k1
        go_wp2_with fail
        refine (does_any w g gx own ownx s j kd x bb K b2 l2 c2 b3 l3 c3 _ hPL (by omega) hV).mono ?_
        rintro e w3 ⟨rfl, own3, ownx3, s3, hPL3⟩
        clear k0 k1 k2 k3 hV hPL
        go_wp2
        go_roundw
        case rel => exact ⟨j + 1, by omega, by go_num, own3, ownx3, s3, hPL3⟩
        case measure => simp [intOf]; omega
      · obtain rfl : j = m := by omega
        have hPL1 : ∃ own ownx s, PL w wr g gx own ownx s s (j + 0) := ⟨own, ownx, s, hPL⟩
        obtain ⟨wo, hwo⟩ : ∃ wo, wo = wr := ⟨_, rfl⟩
        subst hwo
        clear hPL
        go_wp2
        go_loopw [10] (fun i wr => ∃ t : Nat, t ≤ j ∧ i = .int .i64 t ∧ ∃ own ownx s, PL w wr g gx own ownx s s (j + t)) (fun i _ => j - (intOf i).toNat)
        case atStart => exact ⟨0, Nat.zero_le _, rfl, hPL1⟩
        case round =>
          clear hPL1 own ownx s
          obtain ⟨t, ht, rfl, own, ownx, s, hPL⟩ := hrel
          by_cases hlt2 : t < j
          · have hjI : (t : Int) < (j : Int) := by omega
            obtain ⟨b, off, b2, l2, c2, b3, l3, c3, rfl, k0, k1, k2, k3, hV⟩ := HLW.out.at hPL.low t hlt2
            have hpos := hV.pos
            generalize T.getD t doZ = k at k0 k1 hV hpos
            obtain ⟨kd, x, bb, K⟩ := k
            dsimp only at k0 k1 hpos
            have hV2 : DoV w ⟨9, x, [], []⟩ none 0 0 none 0 0 := ⟨by show -9223372036854775808 ≤ (9 : Int) ∧ (9 : Int) ≤ 9223372036854775807; decide, hpos, Bts.of_row (zs := []) (.inl ⟨rfl, rfl, rfl, rfl⟩), bls_nil _ _⟩
            clear hV k2 k3
            go_wp2_with fail
            refine (does_any w g gx own ownx s (j + t) 9 x [] [] none 0 0 none 0 0 _ hPL (by omega) hV2).mono ?_
            rintro e w3 ⟨rfl, own3, ownx3, s3, hPL3⟩
            clear k0 k1 hV2 hPL
            go_wp2
            go_roundw
            case rel => exact ⟨t + 1, by omega, by go_num, own3, ownx3, s3, hPL3⟩
            case measure => simp [intOf]; omega
          · obtain rfl : t = j := by omega
            have hlow := hPL.low
            clear hPL
            go_wp2_with fail
            refine (lives_any _).mono ?_
            rintro e w4 ⟨rfl, hb4⟩
            go_wp2
            go_ret
            exact ⟨rfl, bstep hlow hb4⟩

set_option maxRecDepth 100000 in
theorem lifted (os : Os) (started : os.Started) (H : Type) (enc : TypeId × Value → H) :
    ReturnsInHanded {} Try.checked os 3 .any (Rows.diskPlaysSpec.pre6 enc Try.prog Try.f3 Rows.diskPlaysRow.domain false) (Rows.diskPlaysSpec.post enc Try.prog Try.f3 false true false false) := by
  refine returnsInHanded_of_change (C := Try.checked) own started (by kernel_rfl) Try.func3
    (ChangeSpec.witness6 (enc := enc) (C := Try.checked) false ⟨#[], #[.int .i64 0, .slice none 0 0], []⟩ 8 (by kernel_rfl) (by kernel_rfl) (by kernel_rfl) (by kernel_rfl)) ?_
  intro W base args ds gs before hval0 hW hcnd _
  have hval : ∀ (j : Nat) t v, Try.f3.params[j]? = some t → args[j]? = some v → Value.okWide Try.prog W .any base t v := hval0
  have hW' := hW
  obtain ⟨p, q, hA0, hV, rfl, hfz, hnd⟩ := hW
  have hA : DataW.TrodAll enc Try.prog W 0 (fun _ => true) true Try.f3.params.toList args.toList ds p := hA0
  rw [Try.params3] at hA hval
  obtain ⟨v0, vs0, d0, ds0, p0, q0, hargs, rfl, rfl, h0, r0⟩ := trodAll_cons hA
  obtain ⟨v1, vs1, d1, ds1, p1, q1, rfl, rfl, rfl, h1, r1⟩ := trodAll_cons r0
  obtain ⟨rfl, rfl, rfl⟩ := trodAll_nil r1
  obtain rfl : args = #[v0, v1] := by cases args; simp_all
  obtain ⟨rfl, rfl⟩ := trodVars_none hV
  obtain ⟨a1, len1, cap1, rfl⟩ := okWide_slice Try.underlying22 (hval 1 22 v1 rfl rfl)
  have k0 := h0
  have lt0 : ∀ x ∈ p0, x.block < W.heap.size := by obtain ⟨m, hm⟩ := k0; exact DataW.trod_lt m _ _ _ hm
  have k1 := h1
  have lt1 : ∀ x ∈ p1, x.block < W.heap.size := by obtain ⟨m, hm⟩ := k1; exact DataW.trod_lt m _ _ _ hm
  obtain ⟨sectors, rfl, hsectors⟩ := open_i64 (hval 0 3 v0 rfl rfl) h0
  obtain ⟨L, hL⟩ := open_dos h1
  clear hA0 hval0
  refine (walk sectors a1 len1 cap1 L W hsectors hL).mono fun e W' ⟨he, bel⟩ => ?_
  subst he
  exact ⟨_, rfl, _, _, _, [], _, [], hW', trodAll_mk1 (shut_bool Try.underlying4 _), (trodAll_cons_mk (Below.trod laidOut (by kernel_rfl) (of_decide_eq_true (by kernel_rfl)) k0 bel lt0) (trodAll_cons_mk (Below.trod laidOut (by kernel_rfl) (of_decide_eq_true (by kernel_rfl)) k1 bel lt1) trodAll_mk0)), rfl, bel.frame _, fun h => by cases h⟩

theorem over : Rows.diskPlaysRow.holds Try.pinned (OpenSpec.ofChange Rows.diskPlaysSpec) :=
  OpenClaim.holds_of_wide 3 Try.f3 rfl rfl rfl rfl rfl rfl rfl ⟨rfl, rfl, rfl, rfl, rfl⟩ rfl rfl rfl rfl rfl (by kernel_rfl) Try.func3 (by kernel_rfl)
    (of_decide_eq_true (by kernel_rfl)) (by unfold Func.isWrapper; first | (rw [if_pos (by decide +kernel)]; kernel_rfl) | (rw [if_neg (by decide +kernel)]; exact ⟨rfl, rfl⟩))
    (fun os started H enc _ => lifted os started H enc)

/-- the statement -/
theorem proved : Rows.DiskPlaysSaid := over
end Go.Proofs.Ytihmfnndnjhpbaa.diskPlays
namespace Go.Proofs.Ytihmfnndnjhpbaa
theorem diskPlays_holds : Rows.DiskPlaysSaid := diskPlays.proved
#print axioms diskPlays_holds
end Go.Proofs.Ytihmfnndnjhpbaa
