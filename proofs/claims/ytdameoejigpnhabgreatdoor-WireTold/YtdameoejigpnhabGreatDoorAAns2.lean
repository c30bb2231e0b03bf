/- An answer's bytes, as the document has them. -/
import Derived.Test.YtdameoejigpnhabGreatDoorAAns
import Derived.Test.YtdameoejigpnhabGreatDoorRefDec
namespace Go.Proofs.YtdameoejigpnhabGreatDoor
open Go.RowKit
set_option linter.unusedVariables false

set_option maxRecDepth 100000 in
theorem led_eq (c : Int) : (((⟨#[72, 84, 84, 80, 47, 49, 46, 49, 32]⟩ ++ decB c.toNat) ++ ⟨#[32]⟩) ++ strOf (rsnL c)) ++ ⟨#[13, 10, 67, 111, 110, 116, 101, 110, 116, 45, 76, 101, 110, 103, 116, 104, 58, 32]⟩ = stB c ++ lenH := by
  unfold stB lenH
  rw [ba_assoc (((⟨#[72, 84, 84, 80, 47, 49, 46, 49, 32]⟩ ++ decB c.toNat) ++ ⟨#[32]⟩) ++ strOf (rsnL c))]
  rfl
set_option maxRecDepth 100000 in
theorem all_eq (c : Int) (n : Nat) : ((stB c ++ lenH) ++ decB n) ++ ⟨#[13, 10, 13, 10]⟩ = anB c n := by
  unfold anB lenB
  simp only [ba_assoc]
  rfl
set_option maxRecDepth 100000 in
set_option maxHeartbeats 2000000 in
theorem ranswer_any (c : Int) (a : Option Addr) (n cp : Nat) (b : List Int) (w : World) (hb : Bts w a n cp b) (hn : n ≤ 10000) :
    Calls Tryz.prog 10 #[.int .i64 c, .slice a n cp] w (AnP c b w) := by
  have hl := hb.len_eq
  have C1 : Hid (∀ W, Calls Tryz.prog 13 #[.int .i64 c] W fun e w' => e = .returned (.string (strOf (rsnL c))) ∧ W = w') := fun W => (rreason_any c W).mono fun e w' h => ⟨h.1, h.2.symm⟩
  have hem := empty_str (rsnL c) (rsn_byt c)
  have HB := Bx.mk hb
  clear hb
  by_cases hc : c ∈ cdsL
  · have h0 : rsnL c ≠ [] := (rsn_iff c).2 hc
    rw [decide_eq_false h0] at hem
    by_cases hbig : n ≤ 8192
    · have g1 : ¬ (n : Int) > 8192 := by omega
      have HC := Bx.mk hc
      have HSZ := Bx.mk (anB_size (n := n) hc (by omega))
      have HFIN : Bx (strL (anB c n) ++ b = ansL c b) := ⟨anB_led c n b hl.symm⟩
      obtain ⟨c2, w4, hcv, hb4, hC⟩ := conv_cv w (anB c n) (by have := HSZ.out.1; unfold maxLen; omega)
      have HB4 := Bx.mk hb4
      have HC4 := Bx.mk hC
      have HBT4 := Bx.mk (HB.out.below hb4)
      have HBS : Bx (w.heap.size ≤ w.heap.size) := ⟨Nat.le_refl _⟩
      clear hb4 hC
      have HLEN : Bx ((ansL c b).length = (anB c n).size + n) := ⟨by rw [← HFIN.out, List.length_append, strL_length, hl]⟩
      have e1 := led_eq c
      have e2 := all_eq c n
      have hr : (strOf (rsnL c)).size ≤ 30 := by rw [strOf_size]; exact rsn_len c
      obtain ⟨k, hk, hk6⟩ := cds_nat hc
      have D1 : Hid (∀ W, Calls Tryz.prog 23 #[.int .i64 c] W fun e w' => e = .returned (.string (decB c.toNat)) ∧ W = w') := fun W => by
        rw [hk]; exact (refdec_any (k : Int).natAbs (k : Int) W (Nat.le_refl _) (by omega) (by omega)).mono fun e w' h => ⟨h.1, h.2.symm⟩
      have D2 : Hid (∀ W, Calls Tryz.prog 23 #[.int .i64 (n : Int)] W fun e w' => e = .returned (.string (decB n)) ∧ W = w') := fun W => (refdec_any (n : Int).natAbs (n : Int) W (Nat.le_refl _) (by omega) (by omega)).mono fun e w' h => ⟨h.1, h.2.symm⟩
      have hsd := decB_size c.toNat (by omega)
      have hsn := decB_size n (by omega)
      have hs1 := stB_size hc
      have hs9 : (stB c ++ lenH).size ≤ 90 := by rw [size_append]; show _ + 16 ≤ 90; omega
      clear hc h0 hk hk6
      generalize strOf (rsnL c) = S at *
      generalize stB c ++ lenH = SB at *
      generalize decB c.toNat = D at *
      generalize decB n = DN at *
      generalize anB c n = AB at *
      have hs2 : ((⟨#[72, 84, 84, 80, 47, 49, 46, 49, 32]⟩ : ByteArray) ++ D).size ≤ 15 := by rw [size_append]; show 9 + _ ≤ _; omega
      have hs3 : (((⟨#[72, 84, 84, 80, 47, 49, 46, 49, 32]⟩ : ByteArray) ++ D) ++ ⟨#[32]⟩).size ≤ 16 := by rw [size_append]; show _ + 1 ≤ _; omega
      have hs4 : ((((⟨#[72, 84, 84, 80, 47, 49, 46, 49, 32]⟩ : ByteArray) ++ D) ++ ⟨#[32]⟩) ++ S).size ≤ 50 := by rw [size_append]; omega
      have hs5 : (SB ++ DN).size ≤ 96 := by rw [size_append]; omega
      go_enter Tryz.func10, Tryz.ntmps10
      go_wp2_with fail
      refine (C1.out _).mono ?_
      rintro e w1 ⟨rfl, rfl⟩
      go_wp2_with fail
      refine (D1.out _).mono ?_
      rintro e w1 ⟨rfl, rfl⟩
      go_wp2_with fail
      refine (C1.out _).mono ?_
      rintro e w1 ⟨rfl, rfl⟩
      go_wp2_with fail
      refine (D2.out _).mono ?_
      rintro e w1 ⟨rfl, rfl⟩
      go_wp2_with (at_builtin; refine wpList_append_cv rfl (.tmp 27) (.tmp 28) rfl HB4.out HBS.out HC4.out rfl HSZ.out.2 a n cp b rfl HBT4.out (by have := HSZ.out.1; omega) ?_; intro b5 c5 w5 hbt5 hbl5 hbb5; have HBT5 := Bx.mk hbt5; have HBL5 := Bx.mk hbl5; clear hbt5 hbl5 hbb5)
      go_ret2
      refine ⟨HBL5.out, .inl ⟨HC.out, by omega, b5, c5, ?_, ?_⟩⟩
      · rw [HLEN.out]; rfl
      · rw [HLEN.out, ← HFIN.out]; exact HBT5.out
    · have g1 : (n : Int) > 8192 := by omega
      have HA : Bx (anE c b.length = 5) := ⟨by unfold anE; rw [if_neg (fun h => h hc), if_pos (by omega)]⟩
      clear hc h0 hbig
      generalize strOf (rsnL c) = RS at *
      go_enter Tryz.func10, Tryz.ntmps10
      go_wp2_with fail
      refine (C1.out _).mono ?_
      rintro e w1 ⟨rfl, rfl⟩
      go_wp2
      go_ret2
      exact ⟨Below.refl _ _, .inr ⟨by rw [HA.out]; decide, by rw [HA.out]; rfl⟩⟩
  · have h0 : rsnL c = [] := mem_iff.2 hc
    rw [decide_eq_true h0] at hem
    have HA : Bx (anE c b.length = 2) := ⟨by unfold anE; rw [if_pos hc]⟩
    clear hc h0
    generalize strOf (rsnL c) = RS at *
    go_enter Tryz.func10, Tryz.ntmps10
    go_wp2_with fail
    refine (C1.out _).mono ?_
    rintro e w1 ⟨rfl, rfl⟩
    go_wp2
    go_ret2
    exact ⟨Below.refl _ _, .inr ⟨by rw [HA.out]; decide, by rw [HA.out]; rfl⟩⟩
set_option maxRecDepth 100000 in
theorem anE_ok {c : Int} {n : Nat} (hc : c ∈ cdsL) (hn : n ≤ 8192) : anE c n = 0 := by unfold anE; rw [if_neg (fun h => h hc), if_neg (by omega)]
end Go.Proofs.YtdameoejigpnhabGreatDoor
