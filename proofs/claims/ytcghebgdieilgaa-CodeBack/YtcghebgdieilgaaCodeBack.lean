/- CodeBack: code is read as it was written, and what is read, written again, is the bytes. -/
import Derived.Test.YtcghebgdieilgaaRows
import Derived.Test.YtcghebgdieilgaaInsIn
import Derived.Test.YtcghebgdieilgaaCLiv
import Derived.Test.YtcghebgdieilgaaCFew
import Derived.Test.YtcghebgdieilgaaRCEnc
import Derived.Test.YtcghebgdieilgaaRCDec
import Derived.Test.YtcghebgdieilgaaCut
import Derived.Test.YtcghebgdieilgaaSame
import Derived.WalkKit
import Derived.ProofKit
import Derived.OpenShut
import Derived.ShutString
import Derived.ChangeOld
import Derived.Below
namespace Go.Proofs.Ytcghebgdieilgaa.codeBack
open Go.ChangeShapes Go.WideShapes Go.ChangeAt Go.RowKit
open Go.ChangeMaps (open_string shut_string)
set_option linter.unusedVariables false

theorem own : ownKnob Try.prog.godebug = none := by kernel_rfl
theorem laidOut : laidOutB Try.prog = true := by kernel_rfl

theorem enK_byt {l : List Ic} (hk : IcsK l) : Byt (enK l) := by
  unfold enK
  split
  · rename_i h
    obtain ⟨_, h2, h3, _⟩ := thr_flow h
    refine cdL_byt (fun x hx => ?_) (by omega)
    obtain ⟨j, hj, e⟩ := List.getElem_of_mem hx
    have := h3 j hj
    rw [List.getD_eq_getElem?_getD, List.getElem?_eq_getElem hj] at this
    rw [← e]
    exact canI_ok this (by rw [e]; exact hk x hx)
  · exact Byt.nil
theorem rdK_of {b : List Int} {l : List Ic} (hb : Byt b) (h : rdK b = (l, 0)) : IcsK l ∧ (thr l).2.2 = 0 ∧ enK l = b := by
  obtain ⟨h1, h2, h3⟩ := rdK_back hb h
  exact ⟨h2, h1, by rw [enK_ok h1]; exact h3⟩

set_option maxRecDepth 100000 in
set_option maxHeartbeats 4000000 in
theorem walk (a0 : Option Addr) (len0 cap0 : Nat) (l : List Ic) (a1 : Option Addr) (len1 cap1 : Nat) (b : List Int) (w : World) (hl : IcsI w a0 len0 cap0 l) (hb : Bts w a1 len1 cap1 b) :
    Calls Try.prog 6 #[.slice a0 len0 cap0, .slice a1 len1 cap1] w fun e w' => e = .returned (.bool true) ∧ Below w.heap.size w w' := by
  have HL := Bx.mk hl.1
  have HK : Bx (IcsK (l.take 210)) := ⟨hl.2.take 210⟩
  have HBB := Bx.mk hb
  clear hl hb
  go_enter Try.func6, Try.ntmps6
  go_wp2_with fail
  refine (few15_any a0 len0 cap0 l _ HL.out).mono ?_
  rintro e w1 ⟨v1, rfl, ho1, hb1⟩
  obtain ⟨L, HLL⟩ : ∃ L, Bx (l.take 210 = L) := ⟨_, ⟨rfl⟩⟩
  rw [HLL.out] at ho1 HK
  obtain ⟨a2, c2, rfl, hE1⟩ := Ls.of_owns icC_len ho1 rfl
  have HE1 := Bx.mk hE1
  have HB1 := Bx.mk hb1
  have HBB1 := Bx.mk (HBB.out.below hb1)
  clear ho1 hE1 hb1
  go_wp2_with fail
  refine (cut_any a1 len1 cap1 2500 b _ HBB1.out (by decide)).mono ?_
  rintro e w2 ⟨⟨n1, rfl, hb2⟩, rfl⟩
  obtain ⟨bb, HBBB⟩ : ∃ bb, Bx (bb = b.take 2500) := ⟨_, ⟨rfl⟩⟩
  rw [← HBBB.out] at hb2
  have hn1 : n1 ≤ 2500 := by rw [← hb2.len_eq, HBBB.out, List.length_take]; omega
  have HBb := Bx.mk hb2
  have HBYT := Bx.mk hb2.byt
  clear hb2 HBB1
  go_wp2_with fail
  refine (encode15_any a2 L.length c2 L _ HE1.out HK.out).mono ?_
  rintro e w4 ⟨v4, rfl, ho4, hb4⟩
  have HE4 := Bx.mk (HE1.out.below hb4)
  have HBb4 := Bx.mk (HBb.out.below hb4)
  have HB4 := Bx.mk (bstep HB1.out hb4)
  by_cases hcl : (thr L).2.2 = 0
  · have HIS : Bx (rdK (enK L) = (L, 0)) := ⟨by rw [enK_ok hcl]; exact rdK_txt hcl HK.out⟩
    obtain ⟨a4, c4, rfl, hT4⟩ := Bts.of_owns ho4 (enK_byt HK.out)
    have HT4 := Bx.mk hT4
    rw [hcl]
    clear ho4 hT4 hb4 HE1 HBb HB1 hcl
    go_wp2_with fail
    refine (decode15_any a4 _ c4 (enK L) _ HT4.out).mono ?_
    intro e w5 hd5
    obtain ⟨v5, rfl, ho5, hb5⟩ := hd5
    rw [HIS.out] at ho5 ⊢
    simp only at ho5 ⊢
    obtain ⟨a5, c5, rfl, hD5⟩ := Ls.of_owns icC_len ho5 rfl
    have HD5 := Bx.mk hD5
    have HE5 := Bx.mk (HE4.out.below hb5)
    have HBb5 := Bx.mk (HBb4.out.below hb5)
    have HB5 := Bx.mk (bstep HB4.out hb5)
    clear ho5 hD5 hb5 HE4 HBb4 HB4 HT4
    go_wp2_with fail
    refine (same15_yes a5 a2 _ _ c5 c2 L _ HD5.out HE5.out).mono ?_
    rintro e w5b ⟨rfl, hb5b⟩
    have HBb5b := Bx.mk (HBb5.out.below hb5b)
    have HB5b := Bx.mk (bstep HB5.out hb5b)
    clear hb5b HBb5 HB5 HD5 HE5
    go_wp2_with fail
    -- what is read, written again, is the bytes
    refine (decode15_any a1 n1 cap1 bb _ HBb5b.out).mono ?_
    intro e w6 hd6
    obtain ⟨v6, rfl, ho6, hb6⟩ := hd6
    have HBb6 := Bx.mk (HBb5b.out.below hb6)
    have HB6 := Bx.mk (bstep HB5b.out hb6)
    by_cases hok : (rdK bb).2 = 0
    · obtain ⟨D, HD⟩ : ∃ D, Bx (rdK bb = (D, 0)) := ⟨(rdK bb).1, ⟨by rw [← hok]⟩⟩
      have HBK := Bx.mk (rdK_of HBYT.out HD.out)
      rw [HD.out] at ho6 ⊢
      simp only at ho6 ⊢
      obtain ⟨a6, c6, rfl, hD6⟩ := Ls.of_owns icC_len ho6 rfl
      have HD6 := Bx.mk hD6
      clear hok ho6 hD6 hb6
      go_wp2_with fail
      refine (encode15_any a6 D.length c6 D _ HD6.out HBK.out.1).mono ?_
      rintro e w7 ⟨v7, rfl, ho7, hb7⟩
      rw [HBK.out.2.1]
      rw [HBK.out.2.2] at ho7
      obtain ⟨a7, c7, rfl, hT7⟩ := Bts.of_owns ho7 HBYT.out
      have HT7 := Bx.mk hT7
      have HBb7 := Bx.mk (HBb6.out.below hb7)
      have HB7 := Bx.mk (bstep HB6.out hb7)
      clear ho7 hT7 hb7
      go_wp2_with fail
      refine (same_yes a7 a1 _ _ c7 cap1 bb _ HT7.out HBb7.out).mono ?_
      rintro e w8 ⟨rfl, q8, hq8⟩
      have HB8 : Bx (Below w.heap.size w w8) := ⟨by rw [hq8]; exact below_drewN HB7.out q8⟩
      clear hq8
      go_wp2_with fail
      refine (lives15_any _).mono ?_
      rintro e w9 ⟨rfl, hb9⟩
      have hfin := bstep HB8.out hb9
      go_wp2_with fail
      go_ret
      exact ⟨rfl, hfin⟩
    · have HE := Bx.mk (rdK_err hok)
      rw [HE.out] at ho6
      obtain ⟨a6, c6, rfl, hD6⟩ := Ls.of_owns icC_len ho6 rfl
      generalize (rdK bb).2 = de at hok ⊢
      have hdq : (de != 0) = true := by simpa using hok
      simp only [List.length_nil]
      clear hok ho6 hD6 hb6
      go_wp2_with fail
      refine (lives15_any _).mono ?_
      rintro e w9 ⟨rfl, hb9⟩
      have hfin := bstep HB6.out hb9
      go_wp2_with fail
      go_ret
      exact ⟨rfl, hfin⟩
  · generalize (thr L).2.2 = ce at hcl ⊢
    have hcq : (ce == 0) = false := by simpa using hcl
    clear hcl ho4 hb4
    go_wp2_with fail
    -- what is read, written again, is the bytes
    refine (decode15_any a1 n1 cap1 bb _ HBb4.out).mono ?_
    intro e w6 hd6
    obtain ⟨v6, rfl, ho6, hb6⟩ := hd6
    have HBb6 := Bx.mk (HBb4.out.below hb6)
    have HB6 := Bx.mk (bstep HB4.out hb6)
    by_cases hok : (rdK bb).2 = 0
    · obtain ⟨D, HD⟩ : ∃ D, Bx (rdK bb = (D, 0)) := ⟨(rdK bb).1, ⟨by rw [← hok]⟩⟩
      have HBK := Bx.mk (rdK_of HBYT.out HD.out)
      rw [HD.out] at ho6 ⊢
      simp only at ho6 ⊢
      obtain ⟨a6, c6, rfl, hD6⟩ := Ls.of_owns icC_len ho6 rfl
      have HD6 := Bx.mk hD6
      clear hok ho6 hD6 hb6
      go_wp2_with fail
      refine (encode15_any a6 D.length c6 D _ HD6.out HBK.out.1).mono ?_
      rintro e w7 ⟨v7, rfl, ho7, hb7⟩
      rw [HBK.out.2.1]
      rw [HBK.out.2.2] at ho7
      obtain ⟨a7, c7, rfl, hT7⟩ := Bts.of_owns ho7 HBYT.out
      have HT7 := Bx.mk hT7
      have HBb7 := Bx.mk (HBb6.out.below hb7)
      have HB7 := Bx.mk (bstep HB6.out hb7)
      clear ho7 hT7 hb7
      go_wp2_with fail
      refine (same_yes a7 a1 _ _ c7 cap1 bb _ HT7.out HBb7.out).mono ?_
      rintro e w8 ⟨rfl, q8, hq8⟩
      have HB8 : Bx (Below w.heap.size w w8) := ⟨by rw [hq8]; exact below_drewN HB7.out q8⟩
      clear hq8
      go_wp2_with fail
      refine (lives15_any _).mono ?_
      rintro e w9 ⟨rfl, hb9⟩
      have hfin := bstep HB8.out hb9
      go_wp2_with fail
      go_ret
      exact ⟨rfl, hfin⟩
    · have HE := Bx.mk (rdK_err hok)
      rw [HE.out] at ho6
      obtain ⟨a6, c6, rfl, hD6⟩ := Ls.of_owns icC_len ho6 rfl
      generalize (rdK bb).2 = de at hok ⊢
      have hdq : (de != 0) = true := by simpa using hok
      simp only [List.length_nil]
      clear hok ho6 hD6 hb6
      go_wp2_with fail
      refine (lives15_any _).mono ?_
      rintro e w9 ⟨rfl, hb9⟩
      have hfin := bstep HB6.out hb9
      go_wp2_with fail
      go_ret
      exact ⟨rfl, hfin⟩

set_option maxRecDepth 100000 in
theorem lifted (os : Os) (started : os.Started) (H : Type) (enc : TypeId × Value → H) :
    ReturnsInHanded {} Try.checked os 6 .any (Rows.codeBackSpec.pre6 enc Try.prog Try.f6 Rows.codeBackRow.domain false) (Rows.codeBackSpec.post enc Try.prog Try.f6 false true false false) := by
  refine returnsInHanded_of_change (C := Try.checked) own started (by kernel_rfl) Try.func6
    (ChangeSpec.witness6 (enc := enc) (C := Try.checked) false ⟨#[], #[.slice none 0 0, .slice none 0 0], []⟩ 8 (by kernel_rfl) (by kernel_rfl) (by kernel_rfl) (by kernel_rfl)) ?_
  intro W base args ds gs before hval0 hW hcnd _
  have hval : ∀ (j : Nat) t v, Try.f6.params[j]? = some t → args[j]? = some v → Value.okWide Try.prog W .any base t v := hval0
  have hW' := hW
  obtain ⟨p, q, hA0, hV, rfl, hfz, hnd⟩ := hW
  have hA : DataW.TrodAll enc Try.prog W 0 (fun _ => true) true Try.f6.params.toList args.toList ds p := hA0
  rw [Try.params6] at hA hval
  obtain ⟨v0, vs0, d0, ds0, p0, q0, hargs, rfl, rfl, h0, r0⟩ := trodAll_cons hA
  obtain ⟨v1, vs1, d1, ds1, p1, q1, rfl, rfl, rfl, h1, r1⟩ := trodAll_cons r0
  obtain ⟨rfl, rfl, rfl⟩ := trodAll_nil r1
  obtain rfl : args = #[v0, v1] := by cases args; simp_all
  obtain ⟨rfl, rfl⟩ := trodVars_none hV
  obtain ⟨a0, len0, cap0, rfl⟩ := okWide_slice Try.underlying25 (hval 0 25 v0 rfl rfl)
  obtain ⟨a1, len1, cap1, rfl⟩ := okWide_slice Try.underlying37 (hval 1 37 v1 rfl rfl)
  have k0 := h0
  have lt0 : ∀ x ∈ p0, x.block < W.heap.size := by obtain ⟨m, hm⟩ := k0; exact DataW.trod_lt m _ _ _ hm
  have k1 := h1
  have lt1 : ∀ x ∈ p1, x.block < W.heap.size := by obtain ⟨m, hm⟩ := k1; exact DataW.trod_lt m _ _ _ hm
  obtain ⟨l, hl⟩ := open_ics h0
  obtain ⟨b, hb⟩ := open_byt h1
  clear hA0 hval0
  refine (walk a0 len0 cap0 l a1 len1 cap1 b W hl hb).mono fun e W' ⟨he, bel⟩ => ?_
  subst he
  exact ⟨_, rfl, _, _, _, [], _, [], hW', trodAll_mk1 (shut_bool Try.underlying4 _), (trodAll_cons_mk (Below.trod laidOut (by kernel_rfl) (of_decide_eq_true (by kernel_rfl)) k0 bel lt0) (trodAll_cons_mk (Below.trod laidOut (by kernel_rfl) (of_decide_eq_true (by kernel_rfl)) k1 bel lt1) trodAll_mk0)), rfl, bel.frame _, fun h => by cases h⟩

theorem over : Rows.codeBackRow.holds Try.pinned (OpenSpec.ofChange Rows.codeBackSpec) :=
  OpenClaim.holds_of_wide 6 Try.f6 rfl rfl rfl rfl rfl rfl rfl ⟨rfl, rfl, rfl, rfl, rfl⟩ rfl rfl rfl rfl rfl (by kernel_rfl) Try.func6 (by kernel_rfl)
    (of_decide_eq_true (by kernel_rfl)) (by unfold Func.isWrapper; first | (rw [if_pos (by decide +kernel)]; kernel_rfl) | (rw [if_neg (by decide +kernel)]; exact ⟨rfl, rfl⟩))
    (fun os started H enc _ => lifted os started H enc)

/-- the statement -/
theorem proved : Rows.CodeBackSaid := over
end Go.Proofs.Ytcghebgdieilgaa.codeBack
namespace Go.Proofs.Ytcghebgdieilgaa
theorem codeBack_holds : Rows.CodeBackSaid := codeBack.proved
#print axioms codeBack_holds
end Go.Proofs.Ytcghebgdieilgaa
