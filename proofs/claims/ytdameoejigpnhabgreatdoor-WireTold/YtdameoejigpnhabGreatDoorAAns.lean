/- An answer's bytes. -/
import Derived.Test.YtdameoejigpnhabGreatDoorAReas
import Derived.Test.YtdameoejigpnhabGreatDoorWLen
namespace Go.Proofs.YtdameoejigpnhabGreatDoor
open Go.RowKit
set_option linter.unusedVariables false

/-- an answer's first line -/
def stB (c : Int) : ByteArray := (((⟨#[72, 84, 84, 80, 47, 49, 46, 49, 32]⟩ ++ decB c.toNat) ++ ⟨#[32]⟩) ++ strOf (rsnL c)) ++ ⟨#[13, 10]⟩
/-- all lines of an answer -/
def anB (c : Int) (n : Nat) : ByteArray := (stB c ++ lenB n) ++ ⟨#[13, 10]⟩
set_option maxRecDepth 100000 in
theorem mem_iff {c : Int} : rsnL c = [] ↔ c ∉ cdsL := by
  rw [← rsn_iff]; simp
set_option maxRecDepth 100000 in
theorem rsn_len (c : Int) : (rsnL c).length ≤ 30 := by
  have h1 : ∀ d ∈ cdsL, (rsnL d).length ≤ 30 := by decide
  by_cases h : c ∈ cdsL
  · exact h1 c h
  · rw [mem_iff.2 h]; decide
set_option maxRecDepth 100000 in
theorem rsn_byt (c : Int) : Byt (rsnL c) := by
  have h1 : ∀ d ∈ cdsL, bytD (rsnL d) = true := by decide
  by_cases h : c ∈ cdsL
  · exact byt_dec (h1 c h)
  · rw [mem_iff.2 h]; exact Byt.nil
set_option maxRecDepth 100000 in
theorem stB_size {c : Int} (h : c ∈ cdsL) : (stB c).size ≤ 60 := by
  unfold stB
  rw [size_append, size_append, size_append, size_append, strOf_size]
  have h1 := rsn_len c
  have h2 : c.toNat < 1000000 := by
    have : ∀ d ∈ cdsL, d.toNat < 1000000 := by decide
    exact this c h
  have h3 := decB_size c.toNat h2
  show 9 + _ + 1 + _ + 2 ≤ 60
  omega
set_option maxRecDepth 100000 in
theorem anB_size {c : Int} {n : Nat} (h : c ∈ cdsL) (hn : n < 1000000) : (anB c n).size ≤ 100 ∧ 1 ≤ (anB c n).size := by
  unfold anB
  rw [size_append, size_append]
  have h1 := stB_size h
  have h2 := lenB_size n hn
  show _ + 2 ≤ 100 ∧ 1 ≤ _ + 2
  omega
set_option maxRecDepth 100000 in
theorem strL_dec (n : Nat) : strL (decB n) = decN n := by rw [decB_eq]; exact strL_strOf (fun c hc => by have := decN_dig n c hc; unfold dig at this; simp at this; omega)
set_option maxRecDepth 100000 in
theorem strL_rsn (c : Int) : strL (strOf (rsnL c)) = rsnL c := strL_strOf (rsn_byt c)
set_option maxRecDepth 100000 in
/-- the bytes -/
theorem anB_led (c : Int) (n : Nat) (b : List Int) (hn : n = b.length) : strL (anB c n) ++ b = ansL c b := by
  unfold anB stB lenB lenH ansL ledL
  simp only [strL_append, strL_dec, strL_rsn, hn]
  simp only [List.append_assoc]
  rfl
set_option maxRecDepth 100000 in
theorem empty_str (l : List Int) (hl : Byt l) : (strOf l).toList.isEmpty = decide (l = []) := by
  rw [← lit_eq hl [] Byt.nil _ rfl]
  generalize (strOf l).toList = z
  cases z <;> rfl
set_option maxRecDepth 100000 in
theorem cds_nat {c : Int} (h : c ∈ cdsL) : ∃ k : Nat, c = (k : Int) ∧ k ≤ 600 := by
  have h1 : ∀ d ∈ cdsL, 0 ≤ d ∧ d ≤ 600 := by decide
  exact ⟨c.toNat, by have := h1 c h; omega, by have := h1 c h; omega⟩
set_option maxHeartbeats 400000 in
theorem wstat_any (c : Int) (w : World) (hc : c ∈ cdsL) (ht : Tens w) :
    Calls Tryz.prog 21 #[.int .i64 c, .string (strOf (rsnL c))] w fun e w' => e = .returned (.string (stB c)) ∧ Below w.heap.size w w' := by
  obtain ⟨k, hk, hk6⟩ := cds_nat hc
  have C1 : Hid (Calls Tryz.prog 35 #[.int .i64 c] w fun e w' => e = .returned (.string (decB c.toNat)) ∧ Below w.heap.size w w') := by
    rw [hk]; exact dec_any (k : Int) (by omega) (by omega) w ht
  have hs := decB_size c.toNat (by omega)
  have hr : (strOf (rsnL c)).size ≤ 30 := by rw [strOf_size]; exact rsn_len c
  have HL : Bx (stB c = (((⟨#[72, 84, 84, 80, 47, 49, 46, 49, 32]⟩ ++ decB c.toNat) ++ ⟨#[32]⟩) ++ strOf (rsnL c)) ++ ⟨#[13, 10]⟩) := ⟨rfl⟩
  generalize stB c = R at HL ⊢
  generalize decB c.toNat = D at *
  generalize strOf (rsnL c) = S at *
  have hs2 : ((⟨#[72, 84, 84, 80, 47, 49, 46, 49, 32]⟩ : ByteArray) ++ D).size ≤ 15 := by rw [size_append]; show 9 + _ ≤ _; omega
  have hs3 : (((⟨#[72, 84, 84, 80, 47, 49, 46, 49, 32]⟩ : ByteArray) ++ D) ++ ⟨#[32]⟩).size ≤ 16 := by rw [size_append]; show _ + 1 ≤ _; omega
  have hs4 : ((((⟨#[72, 84, 84, 80, 47, 49, 46, 49, 32]⟩ : ByteArray) ++ D) ++ ⟨#[32]⟩) ++ S).size ≤ 50 := by rw [size_append]; omega
  clear hk hk6 hc
  go_enter Tryz.func21, Tryz.ntmps21
  go_wp2_with fail
  refine C1.out.mono ?_
  rintro e w1 ⟨rfl, hb⟩
  have HB := Bx.mk hb
  clear hb
  go_wp2
  go_ret
  exact ⟨by rw [HL.out]; rfl, HB.out⟩
/-- what Answer answers -/
def AnP (c : Int) (b : List Int) (w : World) (e : Ending) (w' : World) : Prop := Below w.heap.size w w' ∧
  ((c ∈ cdsL ∧ b.length ≤ 8192 ∧ ∃ b' c', e = .returned (.tuple #[.slice (some ⟨b', 0, none⟩) (ansL c b).length c', .int .i64 0]) ∧ Bts w' (some ⟨b', 0, none⟩) (ansL c b).length c' (ansL c b)) ∨
   (anE c b.length ≠ 0 ∧ e = .returned (.tuple #[.slice none 0 0, .int .i64 (anE c b.length)])))
set_option maxRecDepth 100000 in
set_option maxHeartbeats 2000000 in
theorem wanswer_any (c : Int) (a : Option Addr) (n cp : Nat) (b : List Int) (w : World) (hb : Bts w a n cp b) (hn : n ≤ 10000) (hs : Stt w) (he : Env w.heap.size w) :
    Calls Tryz.prog 9 #[.int .i64 c, .slice a n cp] w (AnP c b w) := by
  have hl := hb.len_eq
  have C1 : Hid (Calls Tryz.prog 12 #[.int .i64 c] w fun e w' => e = .returned (.string (strOf (rsnL c))) ∧ Below w.heap.size w w') := wreason_any c w hs
  have hem := empty_str (rsnL c) (rsn_byt c)
  have HB := Bx.mk hb
  have HE := Bx.mk he
  clear hb hs he
  by_cases hc : c ∈ cdsL
  · have h0 : rsnL c ≠ [] := (rsn_iff c).2 hc
    rw [decide_eq_false h0] at hem
    by_cases hbig : n ≤ 8192
    · have g1 : ¬ (n : Int) > 8192 := by omega
      have HC := Bx.mk hc
      have HSZ := Bx.mk (anB_size (n := n) hc (by omega))
      have hs1 := stB_size hc
      have hs2 := lenB_size n (by omega)
      have HAN : Bx ((stB c ++ lenB n) ++ ⟨#[13, 10]⟩ = anB c n) := ⟨rfl⟩
      have HFIN : Bx (strL (anB c n) ++ b = ansL c b) := ⟨anB_led c n b hl.symm⟩
      have HCV : Bx (∀ W : World, ∃ c2 w2, (convert 9 22 (.string (anB c n))).run Tryz.prog W = .ok (.slice (some ⟨W.heap.size, 0, none⟩) (anB c n).size c2) w2 ∧ Below W.heap.size W w2 ∧ Cv w2 W.heap.size (anB c n).size c2 (strL (anB c n))) := ⟨fun W => conv_cv W (anB c n) (by have := HSZ.out.1; unfold maxLen; omega)⟩
      have HLEN : Bx ((ansL c b).length = (anB c n).size + n) := ⟨by rw [← HFIN.out, List.length_append, strL_length, hl]⟩
      have HST : Bx (∀ W, Below w.heap.size w W → Calls Tryz.prog 21 #[.int .i64 c, .string (strOf (rsnL c))] W fun e w' => e = .returned (.string (stB c)) ∧ Below W.heap.size W w') := ⟨fun W hW => wstat_any c W hc (HE.out.below hW).tens⟩
      clear hc h0
      generalize strOf (rsnL c) = RS at *
      generalize stB c = SB at *
      have eAN := HAN.out
      have hs3 : (SB ++ lenB n).size ≤ 90 := by rw [size_append]; omega
      have HLB : Bx (∀ W, Below w.heap.size w W → Calls Tryz.prog 22 #[.int .i64 (n : Int)] W fun e w' => e = .returned (.string (lenB n)) ∧ Below W.heap.size W w') := ⟨fun W hW => wlenl_any n (by omega) W (HE.out.below hW).tens⟩
      generalize lenB n = LB at *
      generalize anB c n = AB at *
      go_enter Tryz.func9, Tryz.ntmps9
      go_wp2_with fail
      refine C1.out.mono ?_
      rintro e w1 ⟨rfl, hb1⟩
      have HB1 := Bx.mk hb1
      clear hb1
      go_wp2_with fail
      refine (HST.out _ HB1.out).mono ?_
      rintro e w2 ⟨rfl, hb2⟩
      have HB2 := Bx.mk (bstep HB1.out hb2)
      clear hb2
      go_wp2_with fail
      refine (HLB.out _ HB2.out).mono ?_
      rintro e w3 ⟨rfl, hb3⟩
      have HB3 := Bx.mk (bstep HB2.out hb3)
      clear hb3
      obtain ⟨c2, w4, hcv, hb4, hC⟩ := HCV.out w3
      have HB4 := Bx.mk (bstep HB3.out hb4)
      have HC4 := Bx.mk hC
      have HBT4 := Bx.mk (HB.out.below HB4.out)
      have HBS : Bx (w.heap.size ≤ w3.heap.size) := ⟨HB3.out.size⟩
      clear hb4 hC
      go_wp2_with (at_builtin; refine wpList_append_cv rfl (.tmp 24) (.tmp 25) rfl HB4.out HBS.out HC4.out rfl HSZ.out.2 a n cp b rfl HBT4.out (by have := HSZ.out.1; omega) ?_; intro b5 c5 w5 hbt5 hbl5 hbb5; have HBT5 := Bx.mk hbt5; have HBL5 := Bx.mk hbl5; clear hbt5 hbl5 hbb5)
      go_ret2
      refine ⟨HBL5.out, .inl ⟨HC.out, by omega, b5, c5, ?_, ?_⟩⟩
      · rw [HLEN.out]; rfl
      · rw [HLEN.out, ← HFIN.out]; exact HBT5.out
    · have g1 : (n : Int) > 8192 := by omega
      have HA : Bx (anE c b.length = 5) := ⟨by unfold anE; rw [if_neg (fun h => h hc), if_pos (by omega)]⟩
      clear hc h0 hbig
      generalize strOf (rsnL c) = RS at *
      go_enter Tryz.func9, Tryz.ntmps9
      go_wp2_with fail
      refine C1.out.mono ?_
      rintro e w1 ⟨rfl, hb1⟩
      have HB1 := Bx.mk hb1
      clear hb1
      go_wp2
      go_ret2
      exact ⟨HB1.out, .inr ⟨by rw [HA.out]; decide, by rw [HA.out]; rfl⟩⟩
  · have h0 : rsnL c = [] := mem_iff.2 hc
    rw [decide_eq_true h0] at hem
    have HA : Bx (anE c b.length = 2) := ⟨by unfold anE; rw [if_pos hc]⟩
    clear hc h0
    generalize strOf (rsnL c) = RS at *
    go_enter Tryz.func9, Tryz.ntmps9
    go_wp2_with fail
    refine C1.out.mono ?_
    rintro e w1 ⟨rfl, hb1⟩
    have HB1 := Bx.mk hb1
    clear hb1
    go_wp2
    go_ret2
    exact ⟨HB1.out, .inr ⟨by rw [HA.out]; decide, by rw [HA.out]; rfl⟩⟩
end Go.Proofs.YtdameoejigpnhabGreatDoor
