/- StoreBack: what is written is read as it was, and what is read, written again, is the bytes. -/
import Derived.Test.YtjnjokbdoendkaaRows
import Derived.Test.YtjnjokbdoendkaaSAlike
import Derived.Test.YtjnjokbdoendkaaSLives
import Derived.Test.YtjnjokbdoendkaaSsd
import Derived.Test.YtjnjokbdoendkaaSma
import Derived.WalkKit
import Derived.ProofKit
import Derived.OpenShut
import Derived.ShutString
import Derived.ChangeOld
import Derived.Below
namespace Go.Proofs.Ytjnjokbdoendkaa.storeBack
open Go.ChangeShapes Go.WideShapes Go.ChangeAt Go.RowKit
open Go.ChangeMaps (open_string shut_string)
set_option linter.unusedVariables false

theorem own : ownKnob Try.prog.godebug = none := by kernel_rfl
theorem laidOut : laidOutB Try.prog = true := by kernel_rfl

theorem enc_byt {l : List Chg} (h : chkL l = 0) (hv : ∀ c ∈ l, Byt c.val) : Byt (encL l) := by
  have hok := chkL_ok h
  unfold encL
  refine Byt.append (varL_byt _ (by omega) (by have := hok.n2; omega)) (flatC_byt fun c hc => ⟨hv c hc, by have := (hok.c c hc).v; omega, by have := (hok.c c hc).k2; omega⟩)
theorem cl_byt {w : World} {own : Nat → Prop} {v : Value} {l : List Chg} (h : CL w own v l) : ∀ c ∈ l, Byt c.val := fun c hc => by
  obtain ⟨Z, hZ, _, hx⟩ := h.row
  rw [← hZ] at hc
  obtain ⟨z, hz, rfl⟩ := List.mem_map.1 hc
  exact (hx z hz).1.byt

set_option maxRecDepth 100000 in
set_option maxHeartbeats 1000000 in
theorem walk (a0 : Option Addr) (len0 cap0 : Nat) (l : List Chg) (a1 : Option Addr) (len1 cap1 : Nat) (b : List Int) (w : World) (hl : Chs w a0 len0 cap0 l) (hb : Bts w a1 len1 cap1 b) :
    Calls Try.prog 4 #[.slice a0 len0 cap0, .slice a1 len1 cap1] w fun e w' => e = .returned (.bool true) ∧ Below w.heap.size w w' := by
  have HL := Bx.mk hl
  have HB := Bx.mk hb
  have hbm := Nat.le_trans hb.le_cap hb.cap_le
  unfold maxLen at hbm
  clear hl hb
  go_enter Try.func4, Try.ntmps4
  go_wp2_with fail
  refine (few11_any a0 len0 cap0 _ l _ HL.out.1 HL.out.2).mono ?_
  rintro e w1 ⟨v1, rfl, hCL1, hb1⟩
  obtain ⟨a2, c2, rfl, hCT1⟩ := hCL1.rt chE_len
  have HCL1 := Bx.mk hCL1
  have HFB := Bx.mk (cl_byt hCL1)
  have HCT1 := Bx.mk hCT1
  have HW1 := Bx.mk hb1
  have HB1 := Bx.mk (HB.out.below hb1)
  clear hCL1 hCT1 hb1
  go_wp2_with fail
  refine (cut_any a1 len1 cap1 9000 b _ HB1.out (by decide)).mono ?_
  rintro e w2 ⟨⟨n1, rfl, hb2⟩, rfl⟩
  obtain ⟨bb, HBB⟩ : ∃ bb, Bx (bb = b.take 9000) := ⟨_, ⟨rfl⟩⟩
  rw [← HBB.out] at hb2
  have hn1 : n1 ≤ 9000 := by rw [← hb2.len_eq, HBB.out, List.length_take]; omega
  have HB2 := Bx.mk hb2
  obtain ⟨F, HF⟩ : ∃ F, Bx (F = fewL l) := ⟨_, ⟨rfl⟩⟩
  rw [← HF.out] at HCL1 HFB HCT1 ⊢
  have HFK : Bx (∀ c ∈ F, c.key.size ≤ 9223372036854775807) := ⟨fun c hc => by rw [HF.out] at hc; have := (fewL_ok l c hc).1; omega⟩
  clear hb2 HB1 HB HBB HF HL
  go_wp2_with fail
  refine (encode_any _ a2 F.length c2 F _ HCT1.out HFK.out).mono ?_
  rintro e w3 ⟨v3, rfl, hown3, hb3⟩
  have HW3 := Bx.mk (bstep HW1.out hb3)
  have HB3 := Bx.mk (HB2.out.below hb3)
  by_cases hY : chkL F = 0
  · have HER : Bx (encR F = encL F) := ⟨by unfold encR; rw [if_pos hY]⟩
    rw [HER.out] at hown3
    obtain ⟨a3, c3, rfl, hm3⟩ := Bts.of_owns hown3 (enc_byt hY HFB.out)
    have HM3 := Bx.mk hm3
    have HCT3 := Bx.mk (HCT1.out.below hb3)
    have HDE := Bx.mk (dec_enc hY)
    have hel := encL_length (chkL_ok hY)
    rw [hY]
    clear hY hown3 hb3 hm3
    go_wp2_with fail
    refine (decode_any a3 _ c3 (encL F) _ HM3.out (by omega)).mono ?_
    rintro e w4 ⟨hb4, hres4⟩
    rcases hres4 with ⟨hdn, _⟩ | ⟨c, v4, hds, rfl, hCL4⟩
    · rw [HDE.out] at hdn; cases hdn
    · obtain rfl : F = c := by rw [HDE.out] at hds; exact Option.some.inj hds
      obtain ⟨a4, c4, rfl, hCT4⟩ := hCL4.rt chE_len
      have HCT4 := Bx.mk hCT4
      have HCT5 := Bx.mk (HCT3.out.below hb4)
      have HW4 := Bx.mk (bstep HW3.out hb4)
      have HB4 := Bx.mk (HB3.out.below hb4)
      clear hb4 hds hCL4 hCT4 HM3
      go_wp2_with fail
      refine (alike_yes _ _ a4 a2 _ _ c4 c2 F _ HCT4.out HCT5.out).mono ?_
      rintro e w5 ⟨rfl, hb5⟩
      have HW9 := Bx.mk (bstep HW4.out hb5)
      have HB9 := Bx.mk (HB4.out.below hb5)
      clear hb5
      go_wp2_with fail
      -- the bytes
      refine (decode_any a1 n1 cap1 bb _ HB9.out (by omega)).mono ?_
      rintro e w7 ⟨hb7, hres7⟩
      have HW7 : Bx (Below w.heap.size w w7) := ⟨bstep HW9.out hb7⟩
      have HB7 := Bx.mk (HB9.out.below hb7)
      rcases hres7 with ⟨hdn, rfl⟩ | ⟨c, v7, hds, rfl, hCL7⟩
      · clear hb7 hdn HB9 HW9
        go_wp2_with fail
        refine (lives_any _).mono ?_
        rintro e w8 ⟨rfl, hb8⟩
        have hfin := bstep HW7.out hb8
        go_wp2_with fail
        go_ret
        exact ⟨rfl, hfin⟩
      · obtain ⟨he, hc0, hcb⟩ := dec_back HB7.out.byt hds
        have HE := Bx.mk he
        have HC0 := Bx.mk hc0
        have HOK7 := Bx.mk (chkL_ok hc0)
        obtain ⟨a7, c7, rfl, hCT7⟩ := hCL7.rt chE_len
        have HCT7 := Bx.mk hCT7
        have HER : Bx (encR c = bb) := ⟨by unfold encR; rw [if_pos hc0, ← he]⟩
        clear hb7 hds hCL7 hCT7 he hc0 hcb HB9 HW9
        go_wp2_with fail
        refine (encode_any _ a7 c.length c7 c _ HCT7.out (fun d hd => by have := (HOK7.out.c d hd).k2; omega)).mono ?_
        rintro e w8 ⟨v8, rfl, hown8, hb8⟩
        rw [HER.out] at hown8
        obtain ⟨a8, c8, rfl, hm8⟩ := Bts.of_owns hown8 HB7.out.byt
        have HM8 := Bx.mk hm8
        have HB8 := Bx.mk (HB7.out.below hb8)
        have HW8 := Bx.mk (bstep HW7.out hb8)
        rw [HC0.out]
        clear hown8 hb8 hm8
        go_wp2_with fail
        refine (same_yes a8 a1 _ n1 c8 cap1 bb _ HM8.out HB8.out).mono ?_
        rintro e w9 ⟨rfl, q9, hq9⟩
        have HW9 : Bx (Below w.heap.size w w9) := ⟨by rw [hq9]; exact below_drewN HW8.out q9⟩
        clear hq9
        go_wp2_with fail
        refine (lives_any _).mono ?_
        rintro e wA ⟨rfl, hbA⟩
        have hfin := bstep HW9.out hbA
        go_wp2_with fail
        go_ret
        exact ⟨rfl, hfin⟩
  · have g2 : (chkL F == 0) = false := by simp [hY]
    obtain ⟨a3, n3, c3, rfl⟩ := own_form hown3
    obtain ⟨Y, HYY⟩ : ∃ Y, Bx (chkL F = Y) := ⟨_, ⟨rfl⟩⟩
    rw [HYY.out] at g2 ⊢
    have HW9 := HW3
    have HB9 := HB3
    clear hY hown3 hb3
    go_wp2_with fail
    -- the bytes
    refine (decode_any a1 n1 cap1 bb _ HB9.out (by omega)).mono ?_
    rintro e w7 ⟨hb7, hres7⟩
    have HW7 : Bx (Below w.heap.size w w7) := ⟨bstep HW9.out hb7⟩
    have HB7 := Bx.mk (HB9.out.below hb7)
    rcases hres7 with ⟨hdn, rfl⟩ | ⟨c, v7, hds, rfl, hCL7⟩
    · clear hb7 hdn HB9 HW9
      go_wp2_with fail
      refine (lives_any _).mono ?_
      rintro e w8 ⟨rfl, hb8⟩
      have hfin := bstep HW7.out hb8
      go_wp2_with fail
      go_ret
      exact ⟨rfl, hfin⟩
    · obtain ⟨he, hc0, hcb⟩ := dec_back HB7.out.byt hds
      have HE := Bx.mk he
      have HC0 := Bx.mk hc0
      have HOK7 := Bx.mk (chkL_ok hc0)
      obtain ⟨a7, c7, rfl, hCT7⟩ := hCL7.rt chE_len
      have HCT7 := Bx.mk hCT7
      have HER : Bx (encR c = bb) := ⟨by unfold encR; rw [if_pos hc0, ← he]⟩
      clear hb7 hds hCL7 hCT7 he hc0 hcb HB9 HW9
      go_wp2_with fail
      refine (encode_any _ a7 c.length c7 c _ HCT7.out (fun d hd => by have := (HOK7.out.c d hd).k2; omega)).mono ?_
      rintro e w8 ⟨v8, rfl, hown8, hb8⟩
      rw [HER.out] at hown8
      obtain ⟨a8, c8, rfl, hm8⟩ := Bts.of_owns hown8 HB7.out.byt
      have HM8 := Bx.mk hm8
      have HB8 := Bx.mk (HB7.out.below hb8)
      have HW8 := Bx.mk (bstep HW7.out hb8)
      rw [HC0.out]
      clear hown8 hb8 hm8
      go_wp2_with fail
      refine (same_yes a8 a1 _ n1 c8 cap1 bb _ HM8.out HB8.out).mono ?_
      rintro e w9 ⟨rfl, q9, hq9⟩
      have HW9 : Bx (Below w.heap.size w w9) := ⟨by rw [hq9]; exact below_drewN HW8.out q9⟩
      clear hq9
      go_wp2_with fail
      refine (lives_any _).mono ?_
      rintro e wA ⟨rfl, hbA⟩
      have hfin := bstep HW9.out hbA
      go_wp2_with fail
      go_ret
      exact ⟨rfl, hfin⟩

set_option maxRecDepth 100000 in
theorem lifted (os : Os) (started : os.Started) (H : Type) (enc : TypeId × Value → H) :
    ReturnsInHanded {} Try.checked os 4 .any (Rows.storeBackSpec.pre6 enc Try.prog Try.f4 Rows.storeBackRow.domain false) (Rows.storeBackSpec.post enc Try.prog Try.f4 false true false false) := by
  refine returnsInHanded_of_change (C := Try.checked) own started (by kernel_rfl) Try.func4
    (ChangeSpec.witness6 (enc := enc) (C := Try.checked) false ⟨#[], #[.slice none 0 0, .slice none 0 0], []⟩ 8 (by kernel_rfl) (by kernel_rfl) (by kernel_rfl) (by kernel_rfl)) ?_
  intro W base args ds gs before hval0 hW hcnd _
  have hval : ∀ (j : Nat) t v, Try.f4.params[j]? = some t → args[j]? = some v → Value.okWide Try.prog W .any base t v := hval0
  have hW' := hW
  obtain ⟨p, q, hA0, hV, rfl, hfz, hnd⟩ := hW
  have hA : DataW.TrodAll enc Try.prog W 0 (fun _ => true) true Try.f4.params.toList args.toList ds p := hA0
  rw [Try.params4] at hA hval
  obtain ⟨v0, vs0, d0, ds0, p0, q0, hargs, rfl, rfl, h0, r0⟩ := trodAll_cons hA
  obtain ⟨v1, vs1, d1, ds1, p1, q1, rfl, rfl, rfl, h1, r1⟩ := trodAll_cons r0
  obtain ⟨rfl, rfl, rfl⟩ := trodAll_nil r1
  obtain rfl : args = #[v0, v1] := by cases args; simp_all
  obtain ⟨rfl, rfl⟩ := trodVars_none hV
  obtain ⟨a0, len0, cap0, rfl⟩ := okWide_slice Try.underlying22 (hval 0 22 v0 rfl rfl)
  obtain ⟨a1, len1, cap1, rfl⟩ := okWide_slice Try.underlying23 (hval 1 23 v1 rfl rfl)
  have k0 := h0
  have lt0 : ∀ x ∈ p0, x.block < W.heap.size := by obtain ⟨m, hm⟩ := k0; exact DataW.trod_lt m _ _ _ hm
  have k1 := h1
  have lt1 : ∀ x ∈ p1, x.block < W.heap.size := by obtain ⟨m, hm⟩ := k1; exact DataW.trod_lt m _ _ _ hm
  obtain ⟨l, hl⟩ := open_chs h0
  obtain ⟨b, hb⟩ := open_byt h1
  clear hA0 hval0
  refine (walk a0 len0 cap0 l a1 len1 cap1 b W hl hb).mono fun e W' ⟨he, bel⟩ => ?_
  subst he
  exact ⟨_, rfl, _, _, _, [], _, [], hW', trodAll_mk1 (shut_bool Try.underlying4 _), (trodAll_cons_mk (Below.trod laidOut (by kernel_rfl) (of_decide_eq_true (by kernel_rfl)) k0 bel lt0) (trodAll_cons_mk (Below.trod laidOut (by kernel_rfl) (of_decide_eq_true (by kernel_rfl)) k1 bel lt1) trodAll_mk0)), rfl, bel.frame _, fun h => by cases h⟩

theorem over : Rows.storeBackRow.holds Try.pinned (OpenSpec.ofChange Rows.storeBackSpec) :=
  OpenClaim.holds_of_wide 4 Try.f4 rfl rfl rfl rfl rfl rfl rfl ⟨rfl, rfl, rfl, rfl, rfl⟩ rfl rfl rfl rfl rfl (by kernel_rfl) Try.func4 (by kernel_rfl)
    (of_decide_eq_true (by kernel_rfl)) (by unfold Func.isWrapper; first | (rw [if_pos (by decide +kernel)]; kernel_rfl) | (rw [if_neg (by decide +kernel)]; exact ⟨rfl, rfl⟩))
    (fun os started H enc _ => lifted os started H enc)

/-- the statement -/
theorem proved : Rows.StoreBackSaid := over
end Go.Proofs.Ytjnjokbdoendkaa.storeBack
namespace Go.Proofs.Ytjnjokbdoendkaa
theorem storeBack_holds : Rows.StoreBackSaid := storeBack.proved
#print axioms storeBack_holds
end Go.Proofs.Ytjnjokbdoendkaa
