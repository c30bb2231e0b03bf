/- QueueTurns: whose turn it is, as the document says, and what is handed in stays. -/
import Derived.Test.YtedingegmiacmaaRows
import Derived.Test.YtedingegmiacmaaIvIn
import Derived.Test.YtedingegmiacmaaQLives
import Derived.Test.YtedingegmiacmaaQTurn
import Derived.WalkKit
import Derived.ProofKit
import Derived.OpenShut
import Derived.ShutString
import Derived.ChangeOld
import Derived.Below
namespace Go.Proofs.Ytedingegmiacmaa.queueTurns
open Go.ChangeShapes Go.WideShapes Go.ChangeAt Go.RowKit
open Go.ChangeMaps (open_string shut_string)
set_option linter.unusedVariables false

theorem own : ownKnob Try.prog.godebug = none := by kernel_rfl
theorem laidOut : laidOutB Try.prog = true := by kernel_rfl

theorem Try.infoB : (Try.prog.info? 4).map (fun i => (i.zero, i.size, i.bytes)) = some (some (.bool false), 1, 1) := by kernel_rfl
theorem low_take {w : World} {a : Option Addr} {n c : Nat} {K : List Bool} (h : Bvs w a n c K) (hn : n ≤ 100) : Bvs w a n c (K.take 100) := h.list (List.take_of_length_le (by rw [h.len_eq]; exact hn)).symm
theorem nil_at {w : World} {n c : Nat} {K : List Bool} (h : Bvs w none n c K) : n = 0 ∧ c = 0 ∧ K = [] := by
  have h1 := h.nil rfl
  have h2 := h.le_cap
  have h3 := h.len_eq
  refine ⟨by omega, h1, List.eq_nil_of_length_eq_zero (by omega)⟩

set_option maxRecDepth 100000 in
set_option maxHeartbeats 8000000 in
theorem walk (a0 : Option Addr) (len0 cap0 : Nat) (wants : List Bool) (last : Int) (w : World) (hwants : Bls w a0 len0 cap0 wants) (hlast : I64 last) :
    Calls Try.prog 4 #[.slice a0 len0 cap0, .int .i64 last] w fun e w' => e = .returned (.bool true) ∧ Below w.heap.size w w' := by
  have HW := Bx.mk hwants
  have hcl := hwants.le_cap
  have hcm := hwants.cap_le
  unfold maxLen at hcm
  obtain ⟨K, HK⟩ : ∃ K, Bx (wants.take 100 = K) := ⟨_, ⟨rfl⟩⟩
  clear hwants hlast
  go_enter Try.func4, Try.ntmps4
  go_upto_if 13 with fail
  go_cut [0] from 14 to 15 (fun s wx => ∃ (a : Option Addr) (m c : Nat), s = .slice a m c ∧ Bx (Bvs w a m c K) ∧ m ≤ 100 ∧ w = wx)
  case first =>
    by_cases hlen : len0 ≤ 100
    · have hlI : ¬ (100 : Int) < (len0 : Int) := by omega
      have H2 := Bx.mk (low_take HW.out hlen)
      rw [HK.out] at H2
      go_wp2_with fail
      go_meet
      case rel => exact ⟨_, _, _, rfl, H2, hlen, rfl⟩
    · have hlI : (100 : Int) < (len0 : Int) := by omega
      have H2 := Bx.mk (HW.out.take 100 (by omega))
      rw [HK.out] at H2
      have hc1 : (100 : Int) ≤ (cap0 : Int) := by omega
      obtain ⟨b, off, e, _, _⟩ := HW.out.bv 0 (by omega)
      subst e
      go_wp2_with fail
      go_meet
      case rel => exact ⟨_, _, _, rfl, H2, Nat.le_refl _, rfl⟩
  case rest =>
    obtain ⟨a, m, c, rfl, HA, hm, rfl⟩ := hcut
    clear HW hcl hcm HK
    have HLEN : Bx (K.length = m) := ⟨HA.out.len_eq⟩
    go_upto_region 4 with fail
    go_cut [5] from 16 to 18 (fun v wx => ∃ (aM : Option Addr) (cM : Nat), v = .slice aM m cM ∧ Bx (Bvs wx aM m cM K) ∧ Bx (Below w.heap.size w wx))
    case first =>
      obtain ⟨i0, hi, hz0, hz1, hz2⟩ := info_parts Try.infoB
      cases a with
      | none =>
        obtain ⟨rfl, rfl, rfl⟩ := nil_at HA.out
        go_wp2_with (at_builtin; refine wpList_append_own_none rfl _ _ 45 rfl w.heap.size 4 i0 1 Try.underlying45 hi _ 0 [] rfl (World.ownsRow_nil _ _ _ _) rfl ?_)
        go_wp2_with fail
        go_meet
        case rel => exact ⟨_, _, rfl, HA, ⟨Below.refl _ _⟩⟩
      | some ad =>
        have HCE := Bx.mk (HA.out.cells bvC_len rfl)
        have HFL : Bx ((K.flatMap bvC).length = m * 1) := ⟨by rw [flatE_len bvC_len, HLEN.out]⟩
        have HON := Bx.mk (flatE_one bvC_one K)
        obtain ⟨ne, HNE⟩ : ∃ ne, Bx (K.flatMap bvC = ne) := ⟨_, ⟨rfl⟩⟩
        rw [HNE.out] at HCE HFL HON
        go_wp2_with (at_builtin; refine wpList_append_own _ rfl _ _ 45 rfl w.heap.size 4 i0 (.bool false) 1 1 Try.underlying45 hi hz0 hz1 hz2 rfl (by decide) _ 0 [] rfl (World.ownsRow_nil _ _ _ _) ad m c ne rfl HFL.out HCE.out HON.out ?c1 ?c2 (Nat.le_refl _) ?_)
        case c1 => unfold maxLen; omega
        case c2 => omega
        intro v1 w1 ho1 hg1 _
        have HB1 : Bx (Below w.heap.size w w1) := ⟨(Below.refl _ _).grown hg1 (Nat.le_refl _) (by intro k hk; cases hk)⟩
        rw [← HNE.out] at ho1
        obtain ⟨aM, cM, rfl, hM⟩ := Ls.of_owns bvC_len ho1 HLEN.out
        have HM := Bx.mk hM
        clear ho1 hg1 hi hz0 hz1 hz2 hM HCE HNE HON HFL
        go_wp2_with fail
        go_meet
        case rel => exact ⟨_, _, rfl, HM, HB1⟩
    case rest =>
      obtain ⟨aM, cM, rfl, HM, HB⟩ := hcut
      have HA1 := Bx.mk (HA.out.below HB.out)
      clear HA
      go_wp2_with fail
      refine (turn19_any _ _ _ _ last _ HM.out (by omega)).mono ?_
      rintro e wz ⟨rfl, hw⟩
      obtain rfl : wc = wz := hw.symm
      clear hw
      obtain ⟨i1, HI1⟩ : ∃ i1 : Int, Bx (trI K last = i1) := ⟨_, ⟨rfl⟩⟩
      obtain ⟨b1, HB1⟩ : ∃ b1 : Bool, Bx ((trn K last).isSome = b1) := ⟨_, ⟨rfl⟩⟩
      rw [HI1.out, HB1.out]
      go_wp2_with fail
      refine (refturn19_any _ _ _ _ last _ HA1.out).mono ?_
      rintro e wz ⟨rfl, hw⟩
      obtain rfl : wc = wz := hw.symm
      clear hw
      rw [HI1.out, HB1.out]
      clear HI1 HB1
      go_wp2_with fail
      go_loopw [10] (fun i wr => ∃ k : Nat, k ≤ m ∧ i = .int .i64 k ∧ Bx (Below wc.heap.size wc wr)) (fun i _ => m - (intOf i).toNat)
      case atStart => exact ⟨0, Nat.zero_le _, rfl, ⟨Below.refl _ _⟩⟩
      case round =>
        obtain ⟨k, hk, rfl, HBR⟩ := hrel
        by_cases hlt : k < m
        · have hki : (k : Int) < (m : Int) := by omega
          obtain ⟨g1, o1, rfl, _, x0⟩ := (HA1.out.below HBR.out).bv k hlt
          obtain ⟨g2, o2, rfl, _, y0⟩ := (HM.out.below HBR.out).bv k hlt
          generalize K.getD k false = x at x0 y0
          have hx : (x != x) = false := by cases x <;> rfl
          go_wp2_with fail
          go_quiet (fail)
          go_wp2_with fail
          go_roundw
          case rel => exact ⟨k + 1, by omega, by go_num, ⟨below_drewN HBR.out _⟩⟩
          case measure => simp [intOf]; omega
        · have hki : ¬ (k : Int) < (m : Int) := by omega
          have hi1 : (i1 == i1) = true := by simp
          have hb1 : (b1 == b1) = true := by simp
          have HBF := Bx.mk (bstep HB.out HBR.out)
          go_wp2_with fail
          refine (lives19_any _).mono ?_
          rintro e wL ⟨rfl, hbL⟩
          have hfin := bstep HBF.out hbL
          clear hbL
          go_wp2_with fail
          go_ret
          exact ⟨rfl, hfin⟩

set_option maxRecDepth 100000 in
theorem lifted (os : Os) (started : os.Started) (H : Type) (enc : TypeId × Value → H) :
    ReturnsInHanded {} Try.checked os 4 .any (Rows.queueTurnsSpec.pre6 enc Try.prog Try.f4 Rows.queueTurnsRow.domain false) (Rows.queueTurnsSpec.post enc Try.prog Try.f4 false true false false) := by
  refine returnsInHanded_of_change (C := Try.checked) own started (by kernel_rfl) Try.func4
    (ChangeSpec.witness6 (enc := enc) (C := Try.checked) false ⟨#[], #[.slice none 0 0, .int .i64 0], []⟩ 8 (by kernel_rfl) (by kernel_rfl) (by kernel_rfl) (by kernel_rfl)) ?_
  intro W base args ds gs before hval0 hW hcnd _
  have hval : ∀ (j : Nat) t v, Try.f4.params[j]? = some t → args[j]? = some v → Value.okWide Try.prog W .any base t v := hval0
  have hW' := hW
  obtain ⟨p, q, hA0, hV, rfl, hfz, hnd⟩ := hW
  have hA : DataW.TrodAll enc Try.prog W 0 (fun _ => true) true Try.f4.params.toList args.toList ds p := hA0
  rw [Try.params4] at hA hval
  obtain ⟨v0, vs0, d0, ds0, p0, q0, hargs, rfl, rfl, h0, r0⟩ := trodAll_cons hA
  obtain ⟨v1, vs1, d1, ds1, p1, q1, rfl, rfl, rfl, h1, r1⟩ := trodAll_cons r0
  obtain ⟨rfl, rfl, rfl⟩ := trodAll_nil r1
  obtain rfl : args = #[v0, v1] := by cases args; simp_all
  obtain ⟨rfl, rfl⟩ := trodVars_none hV
  obtain ⟨a0, len0, cap0, rfl⟩ := okWide_slice Try.underlying45 (hval 0 45 v0 rfl rfl)
  have k0 := h0
  have lt0 : ∀ x ∈ p0, x.block < W.heap.size := by obtain ⟨m, hm⟩ := k0; exact DataW.trod_lt m _ _ _ hm
  have k1 := h1
  have lt1 : ∀ x ∈ p1, x.block < W.heap.size := by obtain ⟨m, hm⟩ := k1; exact DataW.trod_lt m _ _ _ hm
  obtain ⟨wants, hwants⟩ := open_bls h0
  obtain ⟨last, rfl, hlast⟩ := open_i64 (hval 1 3 v1 rfl rfl) h1
  clear hA0 hval0
  refine (walk a0 len0 cap0 wants last W hwants hlast).mono fun e W' ⟨he, bel⟩ => ?_
  subst he
  exact ⟨_, rfl, _, _, _, [], _, [], hW', trodAll_mk1 (shut_bool Try.underlying4 _), (trodAll_cons_mk (Below.trod laidOut (by kernel_rfl) (of_decide_eq_true (by kernel_rfl)) k0 bel lt0) (trodAll_cons_mk (Below.trod laidOut (by kernel_rfl) (of_decide_eq_true (by kernel_rfl)) k1 bel lt1) trodAll_mk0)), rfl, bel.frame _, fun h => by cases h⟩

theorem over : Rows.queueTurnsRow.holds Try.pinned (OpenSpec.ofChange Rows.queueTurnsSpec) :=
  OpenClaim.holds_of_wide 4 Try.f4 rfl rfl rfl rfl rfl rfl rfl ⟨rfl, rfl, rfl, rfl, rfl⟩ rfl rfl rfl rfl rfl (by kernel_rfl) Try.func4 (by kernel_rfl)
    (of_decide_eq_true (by kernel_rfl)) (by unfold Func.isWrapper; first | (rw [if_pos (by decide +kernel)]; kernel_rfl) | (rw [if_neg (by decide +kernel)]; exact ⟨rfl, rfl⟩))
    (fun os started H enc _ => lifted os started H enc)

/-- the statement -/
theorem proved : Rows.QueueTurnsSaid := over
end Go.Proofs.Ytedingegmiacmaa.queueTurns
namespace Go.Proofs.Ytedingegmiacmaa
theorem queueTurns_holds : Rows.QueueTurnsSaid := queueTurns.proved
#print axioms queueTurns_holds
end Go.Proofs.Ytedingegmiacmaa
