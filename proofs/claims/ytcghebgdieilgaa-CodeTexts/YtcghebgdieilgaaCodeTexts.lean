/- CodeTexts: which text any code has, and which code any bytes say, or why none. -/
import Derived.Test.YtcghebgdieilgaaRows
import Derived.Test.YtcghebgdieilgaaInsIn
import Derived.Test.YtcghebgdieilgaaCLiv
import Derived.Test.YtcghebgdieilgaaCFew
import Derived.Test.YtcghebgdieilgaaRCEnc
import Derived.Test.YtcghebgdieilgaaRCDec
import Derived.Test.YtcghebgdieilgaaCut
import Derived.Test.YtcghebgdieilgaaSame
import Derived.WalkKit
import Derived.ProofKit
import Derived.OpenShut
import Derived.ShutString
import Derived.ChangeOld
import Derived.Below
namespace Go.Proofs.Ytcghebgdieilgaa.codeTexts
open Go.ChangeShapes Go.WideShapes Go.ChangeAt Go.RowKit
open Go.ChangeMaps (open_string shut_string)
set_option linter.unusedVariables false

theorem own : ownKnob Try.prog.godebug = none := by kernel_rfl
theorem laidOut : laidOutB Try.prog = true := by kernel_rfl

theorem enK_byt {l : List Ic} (hk : IcsK l) : Byt (enK l) := by
  unfold enK
  split
  · rename_i h
    obtain ⟨_, h2, h3, _⟩ := thr_flow h
    refine cdL_byt (fun x hx => ?_) (by omega)
    obtain ⟨j, hj, e⟩ := List.getElem_of_mem hx
    have := h3 j hj
    rw [List.getD_eq_getElem?_getD, List.getElem?_eq_getElem hj] at this
    rw [← e]
    exact canI_ok this (by rw [e]; exact hk x hx)
  · exact Byt.nil

set_option maxRecDepth 100000 in
set_option maxHeartbeats 4000000 in
theorem walk (a0 : Option Addr) (len0 cap0 : Nat) (l : List Ic) (a1 : Option Addr) (len1 cap1 : Nat) (b : List Int) (w : World) (hl : IcsI w a0 len0 cap0 l) (hb : Bts w a1 len1 cap1 b) :
    Calls Try.prog 5 #[.slice a0 len0 cap0, .slice a1 len1 cap1] w fun e w' => e = .returned (.bool true) ∧ Below w.heap.size w w' := by
  have HL := Bx.mk hl.1
  have HK : Bx (IcsK (l.take 210)) := ⟨hl.2.take 210⟩
  have HBB := Bx.mk hb
  clear hl hb
  go_enter Try.func5, Try.ntmps5
  go_wp2_with fail
  refine (few15_any a0 len0 cap0 l _ HL.out).mono ?_
  rintro e w1 ⟨v1, rfl, ho1, hb1⟩
  obtain ⟨L, HLL⟩ : ∃ L, Bx (l.take 210 = L) := ⟨_, ⟨rfl⟩⟩
  rw [HLL.out] at ho1 HK
  obtain ⟨a2, c2, rfl, hE1⟩ := Ls.of_owns icC_len ho1 rfl
  have HE1 := Bx.mk hE1
  have HB1 := Bx.mk hb1
  have HBB1 := Bx.mk (HBB.out.below hb1)
  clear ho1 hE1 hb1
  go_wp2_with fail
  refine (cut_any a1 len1 cap1 2500 b _ HBB1.out (by decide)).mono ?_
  rintro e w2 ⟨⟨n1, rfl, hb2⟩, rfl⟩
  obtain ⟨bb, HBBB⟩ : ∃ bb, Bx (bb = b.take 2500) := ⟨_, ⟨rfl⟩⟩
  rw [← HBBB.out] at hb2
  have hn1 : n1 ≤ 2500 := by rw [← hb2.len_eq, HBBB.out, List.length_take]; omega
  have HBb := Bx.mk hb2
  clear hb2 HBB1
  go_wp2_with fail
  refine (copy_any a1 n1 cap1 bb _ HBb.out (by omega)).mono ?_
  rintro e w3 ⟨v3, rfl, ho3, hb3⟩
  obtain ⟨a3, c3, rfl, hM3⟩ := Bts.of_owns ho3 HBb.out.byt
  have HM3 := Bx.mk hM3
  have HE3 := Bx.mk (HE1.out.below hb3)
  have HBb3 := Bx.mk (HBb.out.below hb3)
  have HB3 := Bx.mk (bstep HB1.out hb3)
  clear ho3 hM3 hb3 HE1 HBb HB1
  go_wp2_with fail
  refine (encode15_any a2 L.length c2 L _ HE3.out HK.out).mono ?_
  rintro e w4 ⟨v4, rfl, ho4, hb4⟩
  obtain ⟨a4, c4, rfl, hT4⟩ := Bts.of_owns ho4 (enK_byt HK.out)
  have HT4 := Bx.mk hT4
  have HM4 := Bx.mk (HM3.out.below hb4)
  have HE4 := Bx.mk (HE3.out.below hb4)
  have HBb4 := Bx.mk (HBb3.out.below hb4)
  have HB4 := Bx.mk (bstep HB3.out hb4)
  clear ho4 hT4 hb4 HM3 HE3 HBb3 HB3
  go_wp2_with fail
  refine (refencode15_any a2 L.length c2 L _ HE4.out HK.out).mono ?_
  rintro e w5 ⟨v5, rfl, ho5, hb5⟩
  obtain ⟨a5, c5, rfl, hT5⟩ := Bts.of_owns ho5 (enK_byt HK.out)
  have HT5 := Bx.mk hT5
  have HT45 := Bx.mk (HT4.out.below hb5)
  have HM5 := Bx.mk (HM4.out.below hb5)
  have HBb5 := Bx.mk (HBb4.out.below hb5)
  have HB5 := Bx.mk (bstep HB4.out hb5)
  clear ho5 hT5 hb5 HM4 HE4 HBb4 HB4 HT4
  go_wp2_with fail
  refine (decode15_any a3 n1 c3 bb _ HM5.out).mono ?_
  intro e w6 hd6
  obtain ⟨v6, rfl, ho6, hb6⟩ := hd6
  obtain ⟨a6, c6, rfl, hD6⟩ := Ls.of_owns icC_len ho6 rfl
  have HD6 := Bx.mk hD6
  have HT46 := Bx.mk (HT45.out.below hb6)
  have HT56 := Bx.mk (HT5.out.below hb6)
  have HM6 := Bx.mk (HM5.out.below hb6)
  have HBb6 := Bx.mk (HBb5.out.below hb6)
  have HB6 := Bx.mk (bstep HB5.out hb6)
  clear ho6 hD6 hb6 HM5 HBb5 HB5 HT45 HT5
  go_wp2_with fail
  refine (refdecode15_any a1 n1 cap1 bb _ HBb6.out).mono ?_
  intro e w7 hd7
  obtain ⟨v7, rfl, ho7, hb7⟩ := hd7
  obtain ⟨a7, c7, rfl, hD7⟩ := Ls.of_owns icC_len ho7 rfl
  have HD7 := Bx.mk hD7
  have HD67 := Bx.mk (HD6.out.below hb7)
  have HT47 := Bx.mk (HT46.out.below hb7)
  have HT57 := Bx.mk (HT56.out.below hb7)
  have HM7 := Bx.mk (HM6.out.below hb7)
  have HBb7 := Bx.mk (HBb6.out.below hb7)
  have HB7 := Bx.mk (bstep HB6.out hb7)
  clear ho7 hD7 hb7 HM6 HBb6 HB6 HT46 HT56 HD6
  generalize (thr L).2.2 = ce
  generalize (rdK bb).2 = de
  go_wp2_with fail
  refine (same_yes a4 a5 _ _ c4 c5 (enK L) _ HT47.out HT57.out).mono ?_
  rintro e w8 ⟨rfl, q8, hq8⟩
  have hb8 : Below w7.heap.size w7 w8 := by rw [hq8]; exact below_drewN (Below.refl _ _) q8
  have HD68 := Bx.mk (HD67.out.below hb8)
  have HD78 := Bx.mk (HD7.out.below hb8)
  have HM8 := Bx.mk (HM7.out.below hb8)
  have HBb8 := Bx.mk (HBb7.out.below hb8)
  have HB8 := Bx.mk (bstep HB7.out hb8)
  clear hb8 hq8 HM7 HBb7 HB7 HT47 HT57 HD67 HD7
  go_wp2_with fail
  refine (same15_yes a6 a7 _ _ c6 c7 (rdK bb).1 _ HD68.out HD78.out).mono ?_
  rintro e w9 ⟨rfl, hb9⟩
  have HM9 := Bx.mk (HM8.out.below hb9)
  have HBb9 := Bx.mk (HBb8.out.below hb9)
  have HB9 := Bx.mk (bstep HB8.out hb9)
  clear hb9 HM8 HBb8 HB8 HD68 HD78
  go_wp2_with fail
  refine (same_yes a3 a1 n1 n1 c3 cap1 bb _ HM9.out HBb9.out).mono ?_
  rintro e wA ⟨rfl, qA, hqA⟩
  have HBA : Bx (Below w.heap.size w wA) := ⟨by rw [hqA]; exact below_drewN HB9.out qA⟩
  clear hqA
  go_wp2_with fail
  refine (lives15_any _).mono ?_
  rintro e wB ⟨rfl, hbB⟩
  have hfin := bstep HBA.out hbB
  go_wp2_with fail
  go_ret
  exact ⟨rfl, hfin⟩

set_option maxRecDepth 100000 in
theorem lifted (os : Os) (started : os.Started) (H : Type) (enc : TypeId × Value → H) :
    ReturnsInHanded {} Try.checked os 5 .any (Rows.codeTextsSpec.pre6 enc Try.prog Try.f5 Rows.codeTextsRow.domain false) (Rows.codeTextsSpec.post enc Try.prog Try.f5 false true false false) := by
  refine returnsInHanded_of_change (C := Try.checked) own started (by kernel_rfl) Try.func5
    (ChangeSpec.witness6 (enc := enc) (C := Try.checked) false ⟨#[], #[.slice none 0 0, .slice none 0 0], []⟩ 8 (by kernel_rfl) (by kernel_rfl) (by kernel_rfl) (by kernel_rfl)) ?_
  intro W base args ds gs before hval0 hW hcnd _
  have hval : ∀ (j : Nat) t v, Try.f5.params[j]? = some t → args[j]? = some v → Value.okWide Try.prog W .any base t v := hval0
  have hW' := hW
  obtain ⟨p, q, hA0, hV, rfl, hfz, hnd⟩ := hW
  have hA : DataW.TrodAll enc Try.prog W 0 (fun _ => true) true Try.f5.params.toList args.toList ds p := hA0
  rw [Try.params5] at hA hval
  obtain ⟨v0, vs0, d0, ds0, p0, q0, hargs, rfl, rfl, h0, r0⟩ := trodAll_cons hA
  obtain ⟨v1, vs1, d1, ds1, p1, q1, rfl, rfl, rfl, h1, r1⟩ := trodAll_cons r0
  obtain ⟨rfl, rfl, rfl⟩ := trodAll_nil r1
  obtain rfl : args = #[v0, v1] := by cases args; simp_all
  obtain ⟨rfl, rfl⟩ := trodVars_none hV
  obtain ⟨a0, len0, cap0, rfl⟩ := okWide_slice Try.underlying25 (hval 0 25 v0 rfl rfl)
  obtain ⟨a1, len1, cap1, rfl⟩ := okWide_slice Try.underlying37 (hval 1 37 v1 rfl rfl)
  have k0 := h0
  have lt0 : ∀ x ∈ p0, x.block < W.heap.size := by obtain ⟨m, hm⟩ := k0; exact DataW.trod_lt m _ _ _ hm
  have k1 := h1
  have lt1 : ∀ x ∈ p1, x.block < W.heap.size := by obtain ⟨m, hm⟩ := k1; exact DataW.trod_lt m _ _ _ hm
  obtain ⟨l, hl⟩ := open_ics h0
  obtain ⟨b, hb⟩ := open_byt h1
  clear hA0 hval0
  refine (walk a0 len0 cap0 l a1 len1 cap1 b W hl hb).mono fun e W' ⟨he, bel⟩ => ?_
  subst he
  exact ⟨_, rfl, _, _, _, [], _, [], hW', trodAll_mk1 (shut_bool Try.underlying4 _), (trodAll_cons_mk (Below.trod laidOut (by kernel_rfl) (of_decide_eq_true (by kernel_rfl)) k0 bel lt0) (trodAll_cons_mk (Below.trod laidOut (by kernel_rfl) (of_decide_eq_true (by kernel_rfl)) k1 bel lt1) trodAll_mk0)), rfl, bel.frame _, fun h => by cases h⟩

theorem over : Rows.codeTextsRow.holds Try.pinned (OpenSpec.ofChange Rows.codeTextsSpec) :=
  OpenClaim.holds_of_wide 5 Try.f5 rfl rfl rfl rfl rfl rfl rfl ⟨rfl, rfl, rfl, rfl, rfl⟩ rfl rfl rfl rfl rfl (by kernel_rfl) Try.func5 (by kernel_rfl)
    (of_decide_eq_true (by kernel_rfl)) (by unfold Func.isWrapper; first | (rw [if_pos (by decide +kernel)]; kernel_rfl) | (rw [if_neg (by decide +kernel)]; exact ⟨rfl, rfl⟩))
    (fun os started H enc _ => lifted os started H enc)

/-- the statement -/
theorem proved : Rows.CodeTextsSaid := over
end Go.Proofs.Ytcghebgdieilgaa.codeTexts
namespace Go.Proofs.Ytcghebgdieilgaa
theorem codeTexts_holds : Rows.CodeTextsSaid := codeTexts.proved
#print axioms codeTexts_holds
end Go.Proofs.Ytcghebgdieilgaa
