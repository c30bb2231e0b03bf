/- OrderChecks: what any order of any operations is, by any code, with any fuel; all stays. -/
import Derived.Test.YtckgplemdmgekaaRows
import Derived.Test.YtckgplemdmgekaaOrIn
import Derived.Test.YtckgplemdmgekaaOLives
import Derived.Test.YtckgplemdmgekaaOFew
import Derived.Test.YtckgplemdmgekaaORef
import Derived.WalkKit
import Derived.ProofKit
import Derived.OpenShut
import Derived.ShutString
import Derived.ChangeOld
import Derived.Below
namespace Go.Proofs.Ytckgplemdmgekaa.orderChecks
open Go.ChangeShapes Go.WideShapes Go.ChangeAt Go.RowKit
open Go.ChangeMaps (open_string shut_string)
set_option linter.unusedVariables false

theorem own : ownKnob Try.prog.godebug = none := by kernel_rfl
theorem laidOut : laidOutB Try.prog = true := by kernel_rfl


set_option maxRecDepth 100000 in
set_option maxHeartbeats 8000000 in
theorem walk (a0 : Option Addr) (len0 cap0 : Nat) (l : List Ic) (fuel : Int) (a2 : Option Addr) (len2 cap2 : Nat) (ops : List Opr) (a3 : Option Addr) (len3 cap3 : Nat) (o : List Int) (w : World) (hl : IcsI w a0 len0 cap0 l) (hfuel : I64 fuel) (hops : OrsI w a2 len2 cap2 ops) (ho : IvsI w a3 len3 cap3 o) :
    Calls Try.prog 3 #[.slice a0 len0 cap0, .int .i64 fuel, .slice a2 len2 cap2, .slice a3 len3 cap3] w fun e w' => e = .returned (.bool true) ∧ Below w.heap.size w w' := by
  have hfu : V64 fuel := hfuel
  have HL := Bx.mk hl.1
  have HLK := Bx.mk hl.2
  have HOP := Bx.mk hops.1
  have HOPK := Bx.mk hops.2
  have HIO := Bx.mk ho.1
  clear hl hops ho
  go_enter Try.func3, Try.ntmps3
  go_wp2_with fail
  refine (few15_any a0 len0 cap0 l _ HL.out).mono ?_
  rintro e w1 ⟨v1, rfl, ho1, hb1⟩
  obtain ⟨L, HLL⟩ : ∃ L, Bx (l.take 210 = L) := ⟨_, ⟨rfl⟩⟩
  have HLK1 : Bx (IcsK L) := ⟨by rw [← HLL.out]; exact HLK.out.take 210⟩
  have HLN : Bx (L.length ≤ 210) := ⟨by rw [← HLL.out, List.length_take]; omega⟩
  rw [HLL.out] at ho1
  obtain ⟨aL, cL, rfl, hE1⟩ := Ls.of_owns icC_len ho1 rfl
  have HE1 := Bx.mk hE1
  have HB1 := Bx.mk hb1
  have HOP1 := Bx.mk (HOP.out.below hb1)
  have HIO1 := Bx.mk (HIO.out.below hb1)
  clear ho1 hE1 hb1 HL HLK HLL HOP HIO
  go_wp2_with fail
  refine (few17_any a2 len2 cap2 70 ops _ HOP1.out (by decide) (by decide)).mono ?_
  rintro e w2 ⟨v2, rfl, ho2, hb2⟩
  obtain ⟨O, HOO⟩ : ∃ O, Bx (ops.take 70 = O) := ⟨_, ⟨rfl⟩⟩
  have HOK1 : Bx (OrsK O) := ⟨by rw [← HOO.out]; exact HOPK.out.take 70⟩
  have HON : Bx (O.length ≤ 70) := ⟨by rw [← HOO.out, List.length_take]; omega⟩
  rw [HOO.out] at ho2
  obtain ⟨aO, cO, rfl, hE2⟩ := Ls.of_owns orC_len ho2 rfl
  have HO2 := Bx.mk hE2
  have HE2 := Bx.mk (HE1.out.below hb2)
  have HB2 := Bx.mk (bstep HB1.out hb2)
  have HIO2 := Bx.mk (HIO1.out.below hb2)
  clear ho2 hE2 hb2 HE1 HB1 HOP1 HIO1 HOPK HOO
  go_wp2_with fail
  refine (ints17_any a3 len3 cap3 80 o _ HIO2.out (by decide) (by decide)).mono ?_
  rintro e w3 ⟨v3, rfl, ho3, hb3⟩
  obtain ⟨J, HJJ⟩ : ∃ J, Bx (o.take 80 = J) := ⟨_, ⟨rfl⟩⟩
  have HJN : Bx (J.length ≤ 80) := ⟨by rw [← HJJ.out, List.length_take]; omega⟩
  rw [HJJ.out] at ho3
  have HOW3 := Bx.mk ho3
  obtain ⟨aJ, cJ, rfl, hE3⟩ := Ls.of_owns ivC_len ho3 rfl
  have HI3 := Bx.mk hE3
  have HE3 := Bx.mk (HE2.out.below hb3)
  have HO3 := Bx.mk (HO2.out.below hb3)
  have HB3 := Bx.mk (bstep HB2.out hb3)
  skip
  clear ho3 hE3 hb3 HE2 HO2 HB2 HIO2 HJJ
  have HV2 : Bx (V64 2000) := ⟨by unfold V64; decide⟩
  have HVF := Bx.mk hfu
  clear hfu hfuel
  by_cases hb1 : 2000 < fuel
  · have hd1 : decide (2000 < fuel) = true := by simpa using hb1
    by_cases hb2 : fuel ≤ 10000
    · have hd2 : decide (fuel ≤ 10000) = true := by simpa using hb2
      have HFU := HV2
      clear hb1 hb2
      have HLT : Bx (L.take 210 = L) := ⟨List.take_of_length_le HLN.out⟩
      have HOT : Bx (O.take 70 = O) := ⟨List.take_of_length_le HON.out⟩
      have HJT : Bx (J.take 80 = J) := ⟨List.take_of_length_le HJN.out⟩
      go_wp2_with fail
      refine (few15_any _ _ _ L _ HE3.out).mono ?_
      rintro e w4 ⟨v4, rfl, ho4, hb4⟩
      rw [HLT.out] at ho4
      obtain ⟨aM, cM, rfl, hE4⟩ := Ls.of_owns icC_len ho4 rfl
      have HF4 := Bx.mk hE4
      have HE4 := Bx.mk (HE3.out.below hb4)
      have HO4 := Bx.mk (HO3.out.below hb4)
      have HI4 := Bx.mk (HI3.out.below hb4)
      have HB4 := Bx.mk (bstep HB3.out hb4)
      clear ho4 hE4 hb4 HE3 HO3 HI3 HB3
      go_wp2_with fail
      refine (few17_any _ _ _ 70 O _ HO4.out (by decide) (by decide)).mono ?_
      rintro e w5 ⟨v5, rfl, ho5, hb5⟩
      rw [HOT.out] at ho5
      obtain ⟨aP, cP, rfl, hE5⟩ := Ls.of_owns orC_len ho5 rfl
      have HP5 := Bx.mk hE5
      have HF5 := Bx.mk (HF4.out.below hb5)
      have HE5 := Bx.mk (HE4.out.below hb5)
      have HO5 := Bx.mk (HO4.out.below hb5)
      have HI5 := Bx.mk (HI4.out.below hb5)
      have HB5 := Bx.mk (bstep HB4.out hb5)
      clear ho5 hE5 hb5 HE4 HO4 HI4 HB4 HF4
      go_wp2_with fail
      refine (ints17_any _ _ _ 80 J _ HI5.out (by decide) (by decide)).mono ?_
      rintro e w6 ⟨v6, rfl, ho6, hb6⟩
      rw [HJT.out] at ho6
      obtain ⟨aK, cK, rfl, hE6⟩ := Ls.of_owns ivC_len ho6 rfl
      have HK6 := Bx.mk hE6
      have HP6 := Bx.mk (HP5.out.below hb6)
      have HF6 := Bx.mk (HF5.out.below hb6)
      have HE6 := Bx.mk (HE5.out.below hb6)
      have HO6 := Bx.mk (HO5.out.below hb6)
      have HI6 := Bx.mk (HI5.out.below hb6)
      have HB6 := Bx.mk (bstep HB5.out hb6)
      clear ho6 hE6 hb6 HE5 HO5 HI5 HB5 HF5 HP5
      go_wp2_with fail
      refine (check17_any _ _ _ _ _ _ _ _ _ L 2000 O J _ HF6.out HLK1.out HFU.out HP6.out HOK1.out HK6.out).mono ?_
      rintro e w7 ⟨rfl, hb7⟩
      have HK7 := Bx.mk (HK6.out.below hb7)
      have HP7 := Bx.mk (HP6.out.below hb7)
      have HF7 := Bx.mk (HF6.out.below hb7)
      have HE7 := Bx.mk (HE6.out.below hb7)
      have HO7 := Bx.mk (HO6.out.below hb7)
      have HI7 := Bx.mk (HI6.out.below hb7)
      have HB7 := Bx.mk (bstep HB6.out hb7)
      clear hb7 HE6 HO6 HI6 HB6 HF6 HP6 HK6
      go_wp2_with fail
      refine (refcheck17_any _ _ _ _ _ _ _ _ _ L 2000 O J _ HE7.out HLK1.out HFU.out HO7.out HOK1.out HI7.out).mono ?_
      rintro e w8 ⟨rfl, hb8⟩
      have HK8 := Bx.mk (HK7.out.below hb8)
      have HP8 := Bx.mk (HP7.out.below hb8)
      have HF8 := Bx.mk (HF7.out.below hb8)
      have HE8 := Bx.mk (HE7.out.below hb8)
      have HO8 := Bx.mk (HO7.out.below hb8)
      have HI8 := Bx.mk (HI7.out.below hb8)
      have HB8 := Bx.mk (bstep HB7.out hb8)
      clear hb8 HE7 HO7 HI7 HB7 HF7 HP7 HK7
      generalize ordE L 2000 O J = r
      have hrr : (r == r) = true := by simp
      go_wp2_with fail
      refine (same15_yes _ _ _ _ _ _ L _ HF8.out HE8.out).mono ?_
      rintro e w9 ⟨rfl, hb9⟩
      have HK9 := Bx.mk (HK8.out.below hb9)
      have HP9 := Bx.mk (HP8.out.below hb9)
      have HO9 := Bx.mk (HO8.out.below hb9)
      have HI9 := Bx.mk (HI8.out.below hb9)
      have HB9 := Bx.mk (bstep HB8.out hb9)
      clear hb9 HE8 HO8 HI8 HB8 HF8 HP8 HK8
      go_wp2_with fail
      refine (alike14_yes _ _ _ _ _ _ O _ HP9.out HO9.out).mono ?_
      rintro e wA ⟨rfl, hbA⟩
      have HKA := Bx.mk (HK9.out.below hbA)
      have HIA := Bx.mk (HI9.out.below hbA)
      have HBA := Bx.mk (bstep HB9.out hbA)
      clear hbA HO9 HI9 HB9 HP9 HK9
      go_wp2_with fail
      refine (ints15_yes _ _ _ _ _ _ J _ HKA.out HIA.out).mono ?_
      rintro e wB ⟨rfl, hbB⟩
      have HB := Bx.mk (bstep HBA.out hbB)
      clear hbB HKA HIA HBA
      go_wp2_with fail
      refine (lives17_any _).mono ?_
      rintro e wL ⟨rfl, hbL⟩
      have hfin := bstep HB.out hbL
      go_wp2_with fail
      go_ret
      exact ⟨rfl, hfin⟩
    · have hd2 : decide (fuel ≤ 10000) = false := by simpa using hb2
      have HFU := HVF
      clear hb1 hb2
      have HLT : Bx (L.take 210 = L) := ⟨List.take_of_length_le HLN.out⟩
      have HOT : Bx (O.take 70 = O) := ⟨List.take_of_length_le HON.out⟩
      have HJT : Bx (J.take 80 = J) := ⟨List.take_of_length_le HJN.out⟩
      go_wp2_with fail
      refine (few15_any _ _ _ L _ HE3.out).mono ?_
      rintro e w4 ⟨v4, rfl, ho4, hb4⟩
      rw [HLT.out] at ho4
      obtain ⟨aM, cM, rfl, hE4⟩ := Ls.of_owns icC_len ho4 rfl
      have HF4 := Bx.mk hE4
      have HE4 := Bx.mk (HE3.out.below hb4)
      have HO4 := Bx.mk (HO3.out.below hb4)
      have HI4 := Bx.mk (HI3.out.below hb4)
      have HB4 := Bx.mk (bstep HB3.out hb4)
      clear ho4 hE4 hb4 HE3 HO3 HI3 HB3
      go_wp2_with fail
      refine (few17_any _ _ _ 70 O _ HO4.out (by decide) (by decide)).mono ?_
      rintro e w5 ⟨v5, rfl, ho5, hb5⟩
      rw [HOT.out] at ho5
      obtain ⟨aP, cP, rfl, hE5⟩ := Ls.of_owns orC_len ho5 rfl
      have HP5 := Bx.mk hE5
      have HF5 := Bx.mk (HF4.out.below hb5)
      have HE5 := Bx.mk (HE4.out.below hb5)
      have HO5 := Bx.mk (HO4.out.below hb5)
      have HI5 := Bx.mk (HI4.out.below hb5)
      have HB5 := Bx.mk (bstep HB4.out hb5)
      clear ho5 hE5 hb5 HE4 HO4 HI4 HB4 HF4
      go_wp2_with fail
      refine (ints17_any _ _ _ 80 J _ HI5.out (by decide) (by decide)).mono ?_
      rintro e w6 ⟨v6, rfl, ho6, hb6⟩
      rw [HJT.out] at ho6
      obtain ⟨aK, cK, rfl, hE6⟩ := Ls.of_owns ivC_len ho6 rfl
      have HK6 := Bx.mk hE6
      have HP6 := Bx.mk (HP5.out.below hb6)
      have HF6 := Bx.mk (HF5.out.below hb6)
      have HE6 := Bx.mk (HE5.out.below hb6)
      have HO6 := Bx.mk (HO5.out.below hb6)
      have HI6 := Bx.mk (HI5.out.below hb6)
      have HB6 := Bx.mk (bstep HB5.out hb6)
      clear ho6 hE6 hb6 HE5 HO5 HI5 HB5 HF5 HP5
      go_wp2_with fail
      refine (check17_any _ _ _ _ _ _ _ _ _ L fuel O J _ HF6.out HLK1.out HFU.out HP6.out HOK1.out HK6.out).mono ?_
      rintro e w7 ⟨rfl, hb7⟩
      have HK7 := Bx.mk (HK6.out.below hb7)
      have HP7 := Bx.mk (HP6.out.below hb7)
      have HF7 := Bx.mk (HF6.out.below hb7)
      have HE7 := Bx.mk (HE6.out.below hb7)
      have HO7 := Bx.mk (HO6.out.below hb7)
      have HI7 := Bx.mk (HI6.out.below hb7)
      have HB7 := Bx.mk (bstep HB6.out hb7)
      clear hb7 HE6 HO6 HI6 HB6 HF6 HP6 HK6
      go_wp2_with fail
      refine (refcheck17_any _ _ _ _ _ _ _ _ _ L fuel O J _ HE7.out HLK1.out HFU.out HO7.out HOK1.out HI7.out).mono ?_
      rintro e w8 ⟨rfl, hb8⟩
      have HK8 := Bx.mk (HK7.out.below hb8)
      have HP8 := Bx.mk (HP7.out.below hb8)
      have HF8 := Bx.mk (HF7.out.below hb8)
      have HE8 := Bx.mk (HE7.out.below hb8)
      have HO8 := Bx.mk (HO7.out.below hb8)
      have HI8 := Bx.mk (HI7.out.below hb8)
      have HB8 := Bx.mk (bstep HB7.out hb8)
      clear hb8 HE7 HO7 HI7 HB7 HF7 HP7 HK7
      generalize ordE L fuel O J = r
      have hrr : (r == r) = true := by simp
      go_wp2_with fail
      refine (same15_yes _ _ _ _ _ _ L _ HF8.out HE8.out).mono ?_
      rintro e w9 ⟨rfl, hb9⟩
      have HK9 := Bx.mk (HK8.out.below hb9)
      have HP9 := Bx.mk (HP8.out.below hb9)
      have HO9 := Bx.mk (HO8.out.below hb9)
      have HI9 := Bx.mk (HI8.out.below hb9)
      have HB9 := Bx.mk (bstep HB8.out hb9)
      clear hb9 HE8 HO8 HI8 HB8 HF8 HP8 HK8
      go_wp2_with fail
      refine (alike14_yes _ _ _ _ _ _ O _ HP9.out HO9.out).mono ?_
      rintro e wA ⟨rfl, hbA⟩
      have HKA := Bx.mk (HK9.out.below hbA)
      have HIA := Bx.mk (HI9.out.below hbA)
      have HBA := Bx.mk (bstep HB9.out hbA)
      clear hbA HO9 HI9 HB9 HP9 HK9
      go_wp2_with fail
      refine (ints15_yes _ _ _ _ _ _ J _ HKA.out HIA.out).mono ?_
      rintro e wB ⟨rfl, hbB⟩
      have HB := Bx.mk (bstep HBA.out hbB)
      clear hbB HKA HIA HBA
      go_wp2_with fail
      refine (lives17_any _).mono ?_
      rintro e wL ⟨rfl, hbL⟩
      have hfin := bstep HB.out hbL
      go_wp2_with fail
      go_ret
      exact ⟨rfl, hfin⟩
  · have hd1 : decide (2000 < fuel) = false := by simpa using hb1
    have HFU := HVF
    clear hb1
    have HLT : Bx (L.take 210 = L) := ⟨List.take_of_length_le HLN.out⟩
    have HOT : Bx (O.take 70 = O) := ⟨List.take_of_length_le HON.out⟩
    have HJT : Bx (J.take 80 = J) := ⟨List.take_of_length_le HJN.out⟩
    go_wp2_with fail
    refine (few15_any _ _ _ L _ HE3.out).mono ?_
    rintro e w4 ⟨v4, rfl, ho4, hb4⟩
    rw [HLT.out] at ho4
    obtain ⟨aM, cM, rfl, hE4⟩ := Ls.of_owns icC_len ho4 rfl
    have HF4 := Bx.mk hE4
    have HE4 := Bx.mk (HE3.out.below hb4)
    have HO4 := Bx.mk (HO3.out.below hb4)
    have HI4 := Bx.mk (HI3.out.below hb4)
    have HB4 := Bx.mk (bstep HB3.out hb4)
    clear ho4 hE4 hb4 HE3 HO3 HI3 HB3
    go_wp2_with fail
    refine (few17_any _ _ _ 70 O _ HO4.out (by decide) (by decide)).mono ?_
    rintro e w5 ⟨v5, rfl, ho5, hb5⟩
    rw [HOT.out] at ho5
    obtain ⟨aP, cP, rfl, hE5⟩ := Ls.of_owns orC_len ho5 rfl
    have HP5 := Bx.mk hE5
    have HF5 := Bx.mk (HF4.out.below hb5)
    have HE5 := Bx.mk (HE4.out.below hb5)
    have HO5 := Bx.mk (HO4.out.below hb5)
    have HI5 := Bx.mk (HI4.out.below hb5)
    have HB5 := Bx.mk (bstep HB4.out hb5)
    clear ho5 hE5 hb5 HE4 HO4 HI4 HB4 HF4
    go_wp2_with fail
    refine (ints17_any _ _ _ 80 J _ HI5.out (by decide) (by decide)).mono ?_
    rintro e w6 ⟨v6, rfl, ho6, hb6⟩
    rw [HJT.out] at ho6
    obtain ⟨aK, cK, rfl, hE6⟩ := Ls.of_owns ivC_len ho6 rfl
    have HK6 := Bx.mk hE6
    have HP6 := Bx.mk (HP5.out.below hb6)
    have HF6 := Bx.mk (HF5.out.below hb6)
    have HE6 := Bx.mk (HE5.out.below hb6)
    have HO6 := Bx.mk (HO5.out.below hb6)
    have HI6 := Bx.mk (HI5.out.below hb6)
    have HB6 := Bx.mk (bstep HB5.out hb6)
    clear ho6 hE6 hb6 HE5 HO5 HI5 HB5 HF5 HP5
    go_wp2_with fail
    refine (check17_any _ _ _ _ _ _ _ _ _ L fuel O J _ HF6.out HLK1.out HFU.out HP6.out HOK1.out HK6.out).mono ?_
    rintro e w7 ⟨rfl, hb7⟩
    have HK7 := Bx.mk (HK6.out.below hb7)
    have HP7 := Bx.mk (HP6.out.below hb7)
    have HF7 := Bx.mk (HF6.out.below hb7)
    have HE7 := Bx.mk (HE6.out.below hb7)
    have HO7 := Bx.mk (HO6.out.below hb7)
    have HI7 := Bx.mk (HI6.out.below hb7)
    have HB7 := Bx.mk (bstep HB6.out hb7)
    clear hb7 HE6 HO6 HI6 HB6 HF6 HP6 HK6
    go_wp2_with fail
    refine (refcheck17_any _ _ _ _ _ _ _ _ _ L fuel O J _ HE7.out HLK1.out HFU.out HO7.out HOK1.out HI7.out).mono ?_
    rintro e w8 ⟨rfl, hb8⟩
    have HK8 := Bx.mk (HK7.out.below hb8)
    have HP8 := Bx.mk (HP7.out.below hb8)
    have HF8 := Bx.mk (HF7.out.below hb8)
    have HE8 := Bx.mk (HE7.out.below hb8)
    have HO8 := Bx.mk (HO7.out.below hb8)
    have HI8 := Bx.mk (HI7.out.below hb8)
    have HB8 := Bx.mk (bstep HB7.out hb8)
    clear hb8 HE7 HO7 HI7 HB7 HF7 HP7 HK7
    generalize ordE L fuel O J = r
    have hrr : (r == r) = true := by simp
    go_wp2_with fail
    refine (same15_yes _ _ _ _ _ _ L _ HF8.out HE8.out).mono ?_
    rintro e w9 ⟨rfl, hb9⟩
    have HK9 := Bx.mk (HK8.out.below hb9)
    have HP9 := Bx.mk (HP8.out.below hb9)
    have HO9 := Bx.mk (HO8.out.below hb9)
    have HI9 := Bx.mk (HI8.out.below hb9)
    have HB9 := Bx.mk (bstep HB8.out hb9)
    clear hb9 HE8 HO8 HI8 HB8 HF8 HP8 HK8
    go_wp2_with fail
    refine (alike14_yes _ _ _ _ _ _ O _ HP9.out HO9.out).mono ?_
    rintro e wA ⟨rfl, hbA⟩
    have HKA := Bx.mk (HK9.out.below hbA)
    have HIA := Bx.mk (HI9.out.below hbA)
    have HBA := Bx.mk (bstep HB9.out hbA)
    clear hbA HO9 HI9 HB9 HP9 HK9
    go_wp2_with fail
    refine (ints15_yes _ _ _ _ _ _ J _ HKA.out HIA.out).mono ?_
    rintro e wB ⟨rfl, hbB⟩
    have HB := Bx.mk (bstep HBA.out hbB)
    clear hbB HKA HIA HBA
    go_wp2_with fail
    refine (lives17_any _).mono ?_
    rintro e wL ⟨rfl, hbL⟩
    have hfin := bstep HB.out hbL
    go_wp2_with fail
    go_ret
    exact ⟨rfl, hfin⟩

set_option maxRecDepth 100000 in
theorem lifted (os : Os) (started : os.Started) (H : Type) (enc : TypeId × Value → H) :
    ReturnsInHanded {} Try.checked os 3 .any (Rows.orderChecksSpec.pre6 enc Try.prog Try.f3 Rows.orderChecksRow.domain false) (Rows.orderChecksSpec.post enc Try.prog Try.f3 false true false false) := by
  refine returnsInHanded_of_change (C := Try.checked) own started (by kernel_rfl) Try.func3
    (ChangeSpec.witness6 (enc := enc) (C := Try.checked) false ⟨#[], #[.slice none 0 0, .int .i64 0, .slice none 0 0, .slice none 0 0], []⟩ 8 (by kernel_rfl) (by kernel_rfl) (by kernel_rfl) (by kernel_rfl)) ?_
  intro W base args ds gs before hval0 hW hcnd _
  have hval : ∀ (j : Nat) t v, Try.f3.params[j]? = some t → args[j]? = some v → Value.okWide Try.prog W .any base t v := hval0
  have hW' := hW
  obtain ⟨p, q, hA0, hV, rfl, hfz, hnd⟩ := hW
  have hA : DataW.TrodAll enc Try.prog W 0 (fun _ => true) true Try.f3.params.toList args.toList ds p := hA0
  rw [Try.params3] at hA hval
  obtain ⟨v0, vs0, d0, ds0, p0, q0, hargs, rfl, rfl, h0, r0⟩ := trodAll_cons hA
  obtain ⟨v1, vs1, d1, ds1, p1, q1, rfl, rfl, rfl, h1, r1⟩ := trodAll_cons r0
  obtain ⟨v2, vs2, d2, ds2, p2, q2, rfl, rfl, rfl, h2, r2⟩ := trodAll_cons r1
  obtain ⟨v3, vs3, d3, ds3, p3, q3, rfl, rfl, rfl, h3, r3⟩ := trodAll_cons r2
  obtain ⟨rfl, rfl, rfl⟩ := trodAll_nil r3
  obtain rfl : args = #[v0, v1, v2, v3] := by cases args; simp_all
  obtain ⟨rfl, rfl⟩ := trodVars_none hV
  obtain ⟨a0, len0, cap0, rfl⟩ := okWide_slice Try.underlying22 (hval 0 22 v0 rfl rfl)
  obtain ⟨a2, len2, cap2, rfl⟩ := okWide_slice Try.underlying23 (hval 2 23 v2 rfl rfl)
  obtain ⟨a3, len3, cap3, rfl⟩ := okWide_slice Try.underlying24 (hval 3 24 v3 rfl rfl)
  have k0 := h0
  have lt0 : ∀ x ∈ p0, x.block < W.heap.size := by obtain ⟨m, hm⟩ := k0; exact DataW.trod_lt m _ _ _ hm
  have k1 := h1
  have lt1 : ∀ x ∈ p1, x.block < W.heap.size := by obtain ⟨m, hm⟩ := k1; exact DataW.trod_lt m _ _ _ hm
  have k2 := h2
  have lt2 : ∀ x ∈ p2, x.block < W.heap.size := by obtain ⟨m, hm⟩ := k2; exact DataW.trod_lt m _ _ _ hm
  have k3 := h3
  have lt3 : ∀ x ∈ p3, x.block < W.heap.size := by obtain ⟨m, hm⟩ := k3; exact DataW.trod_lt m _ _ _ hm
  obtain ⟨l, hl⟩ := open_ics h0
  obtain ⟨fuel, rfl, hfuel⟩ := open_i64 (hval 1 3 v1 rfl rfl) h1
  obtain ⟨ops, hops⟩ := open_ors h2
  obtain ⟨o, ho⟩ := open_ivs h3
  clear hA0 hval0
  refine (walk a0 len0 cap0 l fuel a2 len2 cap2 ops a3 len3 cap3 o W hl hfuel hops ho).mono fun e W' ⟨he, bel⟩ => ?_
  subst he
  exact ⟨_, rfl, _, _, _, [], _, [], hW', trodAll_mk1 (shut_bool Try.underlying4 _), (trodAll_cons_mk (Below.trod laidOut (by kernel_rfl) (of_decide_eq_true (by kernel_rfl)) k0 bel lt0) (trodAll_cons_mk (Below.trod laidOut (by kernel_rfl) (of_decide_eq_true (by kernel_rfl)) k1 bel lt1) (trodAll_cons_mk (Below.trod laidOut (by kernel_rfl) (of_decide_eq_true (by kernel_rfl)) k2 bel lt2) (trodAll_cons_mk (Below.trod laidOut (by kernel_rfl) (of_decide_eq_true (by kernel_rfl)) k3 bel lt3) trodAll_mk0)))), rfl, bel.frame _, fun h => by cases h⟩

theorem over : Rows.orderChecksRow.holds Try.pinned (OpenSpec.ofChange Rows.orderChecksSpec) :=
  OpenClaim.holds_of_wide 3 Try.f3 rfl rfl rfl rfl rfl rfl rfl ⟨rfl, rfl, rfl, rfl, rfl⟩ rfl rfl rfl rfl rfl (by kernel_rfl) Try.func3 (by kernel_rfl)
    (of_decide_eq_true (by kernel_rfl)) (by unfold Func.isWrapper; first | (rw [if_pos (by decide +kernel)]; kernel_rfl) | (rw [if_neg (by decide +kernel)]; exact ⟨rfl, rfl⟩))
    (fun os started H enc _ => lifted os started H enc)

/-- the statement -/
theorem proved : Rows.OrderChecksSaid := over
end Go.Proofs.Ytckgplemdmgekaa.orderChecks
namespace Go.Proofs.Ytckgplemdmgekaa
theorem orderChecks_holds : Rows.OrderChecksSaid := orderChecks.proved
#print axioms orderChecks_holds
end Go.Proofs.Ytckgplemdmgekaa
