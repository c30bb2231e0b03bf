/- A request's bytes, written. What Print answers. -/
import Derived.Test.YtdameoejigpnhaaGreatDoorWrk
import Derived.Test.YtdameoejigpnhaaGreatDoorWApp
import Derived.Deep.CutRange
namespace Go.Proofs.YtdameoejigpnhaaGreatDoor
open Go.RowKit
set_option linter.unusedVariables false

set_option maxRecDepth 100000 in
theorem strL_append (a b : ByteArray) : strL (a ++ b) = strL a ++ strL b := by
  unfold strL
  rw [show (a ++ b).data.toList = a.data.toList ++ b.data.toList from by rw [ByteArray.data_append, Array.toList_append], List.map_append]
set_option maxRecDepth 100000 in
theorem size_append (a b : ByteArray) : (a ++ b).size = a.size + b.size := by rw [← strL_length, strL_append, List.length_append, strL_length, strL_length]
def lenH : ByteArray := ⟨#[67, 111, 110, 116, 101, 110, 116, 45, 76, 101, 110, 103, 116, 104, 58, 32]⟩
def decB (n : Nat) : ByteArray := ⟨(Lib.itoa (n : Int)).toArray⟩
set_option maxRecDepth 100000 in
theorem decB_eq (n : Nat) : decB n = strOf (decN n) := decS_link n
set_option maxRecDepth 100000 in
theorem decN_le (n : Nat) (hn : n < 1000000) : (decN n).length ≤ 6 := by
  have key : ∀ (k n : Nat), n < 10 ^ (k + 1) → (decN n).length ≤ k + 1 := by
    intro k
    induction k with
    | zero => intro n hn; rw [decN_lt (by simpa using hn)]; simp
    | succ k ih =>
      intro n hn
      by_cases h : n < 10
      · rw [decN_lt h]; simp
      · rw [decN_ge h, List.length_append]
        have := ih (n / 10) (by rw [Nat.pow_succ] at hn; omega)
        simp only [List.length_cons, List.length_nil]
        omega
  exact key 5 n (by simpa using hn)
set_option maxRecDepth 100000 in
theorem decB_size (n : Nat) (hn : n < 1000000) : (decB n).size ≤ 6 := by rw [decB_eq, strOf_size]; exact decN_le n hn
def lenB (n : Nat) : ByteArray := (lenH ++ decB n) ++ ⟨#[13, 10]⟩
set_option maxHeartbeats 400000 in
theorem wlenl_any (n : Nat) (hn : n < 1000000) (w : World) (ht : Tens w) :
    Calls Tryz.prog 49 #[.int .i64 (n : Int)] w fun e w' => e = .returned (.string (lenB n)) ∧ Below w.heap.size w w' := by
  have C1 : Hid (Calls Tryz.prog 60 #[.int .i64 (n : Int)] w fun e w' => e = .returned (.string (decB n)) ∧ Below w.heap.size w w') := dec_any (n : Int) (by omega) (by omega) w ht
  have hs := decB_size n hn
  have HL : Bx (lenB n = (⟨#[67, 111, 110, 116, 101, 110, 116, 45, 76, 101, 110, 103, 116, 104, 58, 32]⟩ ++ decB n) ++ ⟨#[13, 10]⟩) := ⟨rfl⟩
  generalize lenB n = R at HL ⊢
  generalize decB n = D at *
  have hs2 : ((⟨#[67, 111, 110, 116, 101, 110, 116, 45, 76, 101, 110, 103, 116, 104, 58, 32]⟩ : ByteArray) ++ D).size ≤ 22 := by rw [size_append]; have : (⟨#[67, 111, 110, 116, 101, 110, 116, 45, 76, 101, 110, 103, 116, 104, 58, 32]⟩ : ByteArray).size = 16 := rfl; omega
  go_enter Tryz.func49, Tryz.ntmps49
  go_wp2_with fail
  refine C1.out.mono ?_
  rintro e w1 ⟨rfl, hb⟩
  have HB := Bx.mk hb
  clear hb
  go_wp2
  go_ret
  exact ⟨by rw [HL.out]; rfl, HB.out⟩
def wrA (x : WX) : ByteArray := ((((x.m ++ ⟨#[32]⟩) ++ x.t) ++ ⟨#[32]⟩) ++ ⟨#[72, 84, 84, 80, 47, 49, 46, 49]⟩) ++ ⟨#[13, 10]⟩
def authB (k : ByteArray) : ByteArray := ((⟨#[65, 117, 116, 104, 111, 114, 105, 122, 97, 116, 105, 111, 110, 58, 32, 66, 101, 97, 114, 101, 114, 32]⟩ : ByteArray) ++ k) ++ ⟨#[13, 10]⟩
def wrT (x : WX) : ByteArray := if x.k.size = 0 then wrA x else wrA x ++ authB x.k
def wrN (x : WX) : ByteArray := if x.b.length = 0 then wrT x else wrT x ++ lenB x.b.length
def wrB (x : WX) : ByteArray := wrN x ++ ⟨#[13, 10]⟩
def wrL (x : WX) : List Int := strL (wrB x) ++ x.b
/-- no part is too long -/
structure Sml (x : WX) : Prop where
  m : x.m.size ≤ 50
  t : x.t.size ≤ 200
  k : x.k.size ≤ 1200
  b : x.b.length ≤ 2100
set_option maxRecDepth 100000 in
theorem wrA_size {x : WX} (h : Sml x) : (wrA x).size ≤ 300 := by
  unfold wrA
  rw [size_append, size_append, size_append, size_append, size_append]
  have := h.m
  have := h.t
  show _ + 1 + _ + 1 + 8 + 2 ≤ 300
  omega
set_option maxRecDepth 100000 in
theorem authB_size {x : WX} (h : Sml x) : (authB x.k).size ≤ 1300 := by
  unfold authB
  rw [size_append, size_append]
  have := h.k
  show 22 + _ + 2 ≤ 1300
  omega
set_option maxRecDepth 100000 in
theorem wrT_size {x : WX} (h : Sml x) : (wrT x).size ≤ 1600 := by
  unfold wrT
  have := wrA_size h
  have := authB_size h
  split
  · omega
  · rw [size_append]; omega
set_option maxRecDepth 100000 in
theorem lenB_size (n : Nat) (hn : n < 1000000) : (lenB n).size ≤ 24 := by
  unfold lenB
  rw [size_append, size_append]
  have := decB_size n hn
  show 16 + _ + 2 ≤ 24
  omega
set_option maxRecDepth 100000 in
theorem wrN_size {x : WX} (h : Sml x) : (wrN x).size ≤ 1630 := by
  unfold wrN
  have := wrT_size h
  have := lenB_size x.b.length (by have := h.b; omega)
  split
  · omega
  · rw [size_append]; omega
set_option maxRecDepth 100000 in
theorem wrB_size {x : WX} (h : Sml x) : (wrB x).size ≤ 1640 ∧ 1 ≤ (wrB x).size := by
  unfold wrB
  rw [size_append]
  have := wrN_size h
  show _ + 2 ≤ 1640 ∧ 1 ≤ _ + 2
  omega
set_option maxRecDepth 100000 in
set_option maxHeartbeats 1000000 in
theorem wwritten_any (x : WX) (a : Option Addr) (n c : Nat) (w : World) (hb : Bts w a n c x.b) (hs : Sml x) (he : Env w.heap.size w) :
    Calls Tryz.prog 36 #[reqV x (.slice a n c)] w fun e w' => ∃ b' c', e = .returned (.slice (some ⟨b', 0, none⟩) (wrL x).length c') ∧ Bts w' (some ⟨b', 0, none⟩) (wrL x).length c' (wrL x) ∧ w.heap.size ≤ b' ∧ Below w.heap.size w w' := by
  have hn := hb.len_eq
  have hB1 : Below w.heap.size w (w.alloc (.cells #[.string x.m, .string x.t, .string x.k, .slice a n c] 26)) := (Below.refl _ _).alloc (Nat.le_refl _) _
  have HB1 := Bx.mk hB1
  have HBT := Bx.mk (hb.below hB1)
  have HE := Bx.mk (he.up hB1)
  have HLEN : Bx ((wrL x).length = (wrB x).size + n) := ⟨by unfold wrL; rw [List.length_append, strL_length, hn]⟩
  have HSB := Bx.mk (wrB_size hs)
  have hsm := hs.m
  have hst := hs.t
  have hsk := hs.k
  have hsb := hs.b
  have hsA := wrA_size hs
  have hsT := wrT_size hs
  have hsN := wrN_size hs
  have eA : ((((x.m ++ ⟨#[32]⟩) ++ x.t) ++ ⟨#[32]⟩) ++ ⟨#[72, 84, 84, 80, 47, 49, 46, 49]⟩) ++ ⟨#[13, 10]⟩ = wrA x := rfl
  have eU : ((⟨#[65, 117, 116, 104, 111, 114, 105, 122, 97, 116, 105, 111, 110, 58, 32, 66, 101, 97, 114, 101, 114, 32]⟩ : ByteArray) ++ x.k) ++ ⟨#[13, 10]⟩ = authB x.k := rfl
  have hsU := authB_size hs
  have hsL := lenB_size x.b.length (by omega)
  have HT : Bx (wrT x = if x.k.size = 0 then wrA x else wrA x ++ authB x.k) := ⟨rfl⟩
  have HN : Bx (wrN x = if x.b.length = 0 then wrT x else wrT x ++ lenB x.b.length) := ⟨rfl⟩
  have eB : wrN x ++ ⟨#[13, 10]⟩ = wrB x := rfl
  have HCV : Bx (∀ W : World, ∃ c2 w2, (convert 9 22 (.string (wrB x))).run Tryz.prog W = .ok (.slice (some ⟨W.heap.size, 0, none⟩) (wrB x).size c2) w2 ∧ Below W.heap.size W w2 ∧ Cv w2 W.heap.size (wrB x).size c2 (strL (wrB x))) := ⟨fun W => conv_cv W (wrB x) (by have := HSB.out.1; unfold maxLen; omega)⟩
  have HFIN : Bx (strL (wrB x) ++ x.b = wrL x) := ⟨rfl⟩
  have C1 : Hid (∀ W, Below w.heap.size w W → Calls Tryz.prog 49 #[.int .i64 (n : Int)] W fun e w' => e = .returned (.string (lenB x.b.length)) ∧ Below W.heap.size W w') := fun W hW => by rw [hn]; exact wlenl_any n (by omega) W (he.below hW).tens
  have ek := empty_iff x.k
  have HROW : Bx ((w.alloc (.cells #[.string x.m, .string x.t, .string x.k, .slice a n c] 26)).heap[w.heap.size]? = some (.cells #[.string x.m, .string x.t, .string x.k, .slice a n c] 26 (0, 0))) := ⟨heap_alloc_new w _⟩
  have HSZ : Bx ((w.alloc (.cells #[.string x.m, .string x.t, .string x.k, .slice a n c] 26)).heap.size = w.heap.size + 1) := ⟨by simp⟩
  have hnb : n ≤ 2100 := by omega
  rw [hn] at HN hsL C1
  clear hB1 hs he hb hsb hn
  unfold reqV
  generalize hw1 : w.alloc (.cells #[.string x.m, .string x.t, .string x.k, .slice a n c] 26) = W1 at *
  generalize wrA x = A at *
  generalize authB x.k = U at *
  generalize wrT x = T at *
  generalize wrN x = N at *
  generalize lenB n = LB at *
  generalize wrB x = WB at *
  have HR1 : Bx (∃ v, W1.cell? ⟨w.heap.size, 0, none⟩ = some (.string x.m) ∧ W1.cell? ⟨w.heap.size, 1, none⟩ = some (.string x.t) ∧ W1.cell? ⟨w.heap.size, 2, none⟩ = some (.string x.k) ∧ W1.cell? ⟨w.heap.size, 3, none⟩ = some v ∧ v = .slice a n c) := ⟨_, by rw [cell_of_row _ w.heap.size 0 _ _ (0, 0) HROW.out]; rfl, by rw [cell_of_row _ w.heap.size 1 _ _ (0, 0) HROW.out]; rfl, by rw [cell_of_row _ w.heap.size 2 _ _ (0, 0) HROW.out]; rfl, by rw [cell_of_row _ w.heap.size 3 _ _ (0, 0) HROW.out]; rfl, rfl⟩
  obtain ⟨v, q0, q1, q2, q3, rfl⟩ := HR1.out
  clear HR1
  by_cases hk : x.k.size = 0
  · rw [decide_eq_true hk] at ek
    have hTA : T = A := by rw [HT.out, if_pos hk]
    subst hTA
    by_cases h0 : n = 0
    · have hNT : N = T := by rw [HN.out, if_pos h0]
      have g0 : ¬ (n : Int) > 0 := by omega
      subst hNT
      clear HT HN hk h0
      obtain ⟨c2, w3, hcv, hb3, hC⟩ := HCV.out W1
      have HB3 : Bx (Below w.heap.size w w3) := ⟨bstep HB1.out hb3⟩
      have hr3 : w3.heap[w.heap.size]? = some (.cells #[.string x.m, .string x.t, .string x.k, .slice a n c] 26 (0, 0)) := by rw [hb3.block _ (by have := HSZ.out; have := HB1.out.size; omega)]; exact HROW.out
      have k3 : w3.cell? ⟨w.heap.size, 3, none⟩ = some (.slice a n c) := by rw [cell_of_row w3 w.heap.size 3 _ _ (0, 0) hr3]; rfl
      have HBT3 := Bx.mk (HBT.out.below hb3)
      have HC := Bx.mk hC
      have HBS : Bx (w.heap.size ≤ (W1).heap.size) := ⟨HB1.out.size⟩
      clear hb3 hC hr3
      go_enter Tryz.func36, Tryz.ntmps36
      go_wp2_with (at_builtin; refine wpList_append_cv rfl (.tmp 34) (.tmp 36) rfl HB3.out HBS.out HC.out rfl HSB.out.2 a n c x.b rfl HBT3.out (by have := HSB.out.1; omega) ?_; intro b4 c4 w4 hbt4 hbl4 hbb4; have HBT4 := Bx.mk hbt4; have HBL4 := Bx.mk hbl4; have HBB4 := Bx.mk hbb4; clear hbt4 hbl4 hbb4)
      go_ret
      refine ⟨b4, c4, ?_, ?_, HBB4.out, HBL4.out⟩
      · rw [HLEN.out]; rfl
      · rw [HLEN.out, ← HFIN.out]; exact HBT4.out
    · have eN : T ++ LB = N := by rw [HN.out, if_neg h0]
      have g0 : (n : Int) > 0 := by omega
      clear HT HN hk h0
      go_enter Tryz.func36, Tryz.ntmps36
      go_wp2_with fail
      refine (C1.out _ HB1.out).mono ?_
      rintro e w2 ⟨rfl, hb2⟩
      have HB2 := Bx.mk (bstep HB1.out hb2)
      have HROW2 : Bx (w2.heap[w.heap.size]? = some (.cells #[.string x.m, .string x.t, .string x.k, .slice a n c] 26 (0, 0))) := ⟨by rw [hb2.block _ (by have := HSZ.out; omega)]; exact HROW.out⟩
      have HBT2 := Bx.mk (HBT.out.below hb2)
      have HS2 := Bx.mk hb2.size
      clear hb2
      obtain ⟨c2, w3, hcv, hb3, hC⟩ := HCV.out w2
      have HB3 : Bx (Below w.heap.size w w3) := ⟨bstep HB2.out hb3⟩
      have hr3 : w3.heap[w.heap.size]? = some (.cells #[.string x.m, .string x.t, .string x.k, .slice a n c] 26 (0, 0)) := by rw [hb3.block _ (by have := HSZ.out; have := HS2.out; omega)]; exact HROW2.out
      have k3 : w3.cell? ⟨w.heap.size, 3, none⟩ = some (.slice a n c) := by rw [cell_of_row w3 w.heap.size 3 _ _ (0, 0) hr3]; rfl
      have HBT3 := Bx.mk (HBT2.out.below hb3)
      have HC := Bx.mk hC
      have HBS : Bx (w.heap.size ≤ (w2).heap.size) := ⟨HB2.out.size⟩
      clear hb3 hC hr3
      go_wp2_with (at_builtin; refine wpList_append_cv rfl (.tmp 34) (.tmp 36) rfl HB3.out HBS.out HC.out rfl HSB.out.2 a n c x.b rfl HBT3.out (by have := HSB.out.1; omega) ?_; intro b4 c4 w4 hbt4 hbl4 hbb4; have HBT4 := Bx.mk hbt4; have HBL4 := Bx.mk hbl4; have HBB4 := Bx.mk hbb4; clear hbt4 hbl4 hbb4)
      go_ret
      refine ⟨b4, c4, ?_, ?_, HBB4.out, HBL4.out⟩
      · rw [HLEN.out]; rfl
      · rw [HLEN.out, ← HFIN.out]; exact HBT4.out
  · rw [decide_eq_false hk] at ek
    have eT : A ++ U = T := by rw [HT.out, if_neg hk]
    by_cases h0 : n = 0
    · have hNT : N = T := by rw [HN.out, if_pos h0]
      have g0 : ¬ (n : Int) > 0 := by omega
      subst hNT
      clear HT HN hk h0
      obtain ⟨c2, w3, hcv, hb3, hC⟩ := HCV.out W1
      have HB3 : Bx (Below w.heap.size w w3) := ⟨bstep HB1.out hb3⟩
      have hr3 : w3.heap[w.heap.size]? = some (.cells #[.string x.m, .string x.t, .string x.k, .slice a n c] 26 (0, 0)) := by rw [hb3.block _ (by have := HSZ.out; have := HB1.out.size; omega)]; exact HROW.out
      have k3 : w3.cell? ⟨w.heap.size, 3, none⟩ = some (.slice a n c) := by rw [cell_of_row w3 w.heap.size 3 _ _ (0, 0) hr3]; rfl
      have HBT3 := Bx.mk (HBT.out.below hb3)
      have HC := Bx.mk hC
      have HBS : Bx (w.heap.size ≤ (W1).heap.size) := ⟨HB1.out.size⟩
      clear hb3 hC hr3
      go_enter Tryz.func36, Tryz.ntmps36
      go_wp2_with (at_builtin; refine wpList_append_cv rfl (.tmp 34) (.tmp 36) rfl HB3.out HBS.out HC.out rfl HSB.out.2 a n c x.b rfl HBT3.out (by have := HSB.out.1; omega) ?_; intro b4 c4 w4 hbt4 hbl4 hbb4; have HBT4 := Bx.mk hbt4; have HBL4 := Bx.mk hbl4; have HBB4 := Bx.mk hbb4; clear hbt4 hbl4 hbb4)
      go_ret
      refine ⟨b4, c4, ?_, ?_, HBB4.out, HBL4.out⟩
      · rw [HLEN.out]; rfl
      · rw [HLEN.out, ← HFIN.out]; exact HBT4.out
    · have eN : T ++ LB = N := by rw [HN.out, if_neg h0]
      have g0 : (n : Int) > 0 := by omega
      clear HT HN hk h0
      go_enter Tryz.func36, Tryz.ntmps36
      go_wp2_with fail
      refine (C1.out _ HB1.out).mono ?_
      rintro e w2 ⟨rfl, hb2⟩
      have HB2 := Bx.mk (bstep HB1.out hb2)
      have HROW2 : Bx (w2.heap[w.heap.size]? = some (.cells #[.string x.m, .string x.t, .string x.k, .slice a n c] 26 (0, 0))) := ⟨by rw [hb2.block _ (by have := HSZ.out; omega)]; exact HROW.out⟩
      have HBT2 := Bx.mk (HBT.out.below hb2)
      have HS2 := Bx.mk hb2.size
      clear hb2
      obtain ⟨c2, w3, hcv, hb3, hC⟩ := HCV.out w2
      have HB3 : Bx (Below w.heap.size w w3) := ⟨bstep HB2.out hb3⟩
      have hr3 : w3.heap[w.heap.size]? = some (.cells #[.string x.m, .string x.t, .string x.k, .slice a n c] 26 (0, 0)) := by rw [hb3.block _ (by have := HSZ.out; have := HS2.out; omega)]; exact HROW2.out
      have k3 : w3.cell? ⟨w.heap.size, 3, none⟩ = some (.slice a n c) := by rw [cell_of_row w3 w.heap.size 3 _ _ (0, 0) hr3]; rfl
      have HBT3 := Bx.mk (HBT2.out.below hb3)
      have HC := Bx.mk hC
      have HBS : Bx (w.heap.size ≤ (w2).heap.size) := ⟨HB2.out.size⟩
      clear hb3 hC hr3
      go_wp2_with (at_builtin; refine wpList_append_cv rfl (.tmp 34) (.tmp 36) rfl HB3.out HBS.out HC.out rfl HSB.out.2 a n c x.b rfl HBT3.out (by have := HSB.out.1; omega) ?_; intro b4 c4 w4 hbt4 hbl4 hbb4; have HBT4 := Bx.mk hbt4; have HBL4 := Bx.mk hbl4; have HBB4 := Bx.mk hbb4; clear hbt4 hbl4 hbb4)
      go_ret
      refine ⟨b4, c4, ?_, ?_, HBB4.out, HBL4.out⟩
      · rw [HLEN.out]; rfl
      · rw [HLEN.out, ← HFIN.out]; exact HBT4.out
end Go.Proofs.YtdameoejigpnhaaGreatDoor
namespace Go.Proofs.YtdameoejigpnhaaGreatDoor
open Go.RowKit
set_option linter.unusedVariables false

def prT (x : WX) : WX × Nat × Int := runQ wp0 ws0 (wrL x) 0
/-- whether a request is one -/
def prB (x : WX) : Bool := decide ((prT x).2.2 = 0) && (decide ((prT x).2.1 = (wrL x).length) && smW x (prT x).1)
set_option maxRecDepth 100000 in
theorem prB_iff (x : WX) : prB x = true ↔ prT x = (x, (wrL x).length, 0) := by
  unfold prB
  generalize prT x = T
  obtain ⟨T1, T2, T3⟩ := T
  simp only [Bool.and_eq_true, decide_eq_true_eq, smW_iff, Prod.mk.injEq]
  exact ⟨fun ⟨a, b, c⟩ => ⟨c.symm, b, a⟩, fun ⟨a, b, c⟩ => ⟨c, b, a.symm⟩⟩
def PrP (x : WX) (w : World) (e : Ending) (w' : World) : Prop := Below w.heap.size w w' ∧
  ((prB x = true ∧ ∃ b' c', e = .returned (.tuple #[.slice (some ⟨b', 0, none⟩) (wrL x).length c', .int .i64 0]) ∧ Bts w' (some ⟨b', 0, none⟩) (wrL x).length c' (wrL x)) ∨
   (prB x = false ∧ e = .returned (.tuple #[.slice none 0 0, .int .i64 4])))
set_option maxRecDepth 100000 in
set_option maxHeartbeats 2000000 in
theorem wprint_any (x : WX) (a : Option Addr) (n c : Nat) (w : World) (hb : Bts w a n c x.b) (hs : Sml x) (he : Env w.heap.size w) :
    Calls Tryz.prog 23 #[reqV x (.slice a n c)] w (PrP x w) := by
  have hB1 : Below w.heap.size w (w.alloc (.cells #[.string x.m, .string x.t, .string x.k, .slice a n c] 26)) := (Below.refl _ _).alloc (Nat.le_refl _) _
  have HB1 := Bx.mk hB1
  have HBT := Bx.mk (hb.below hB1)
  have HE := Bx.mk he
  have HS := Bx.mk hs
  have HROW : Bx ((w.alloc (.cells #[.string x.m, .string x.t, .string x.k, .slice a n c] 26)).heap[w.heap.size]? = some (.cells #[.string x.m, .string x.t, .string x.k, .slice a n c] 26 (0, 0))) := ⟨heap_alloc_new w _⟩
  have HSZ : Bx ((w.alloc (.cells #[.string x.m, .string x.t, .string x.k, .slice a n c] 26)).heap.size = w.heap.size + 1) := ⟨by simp⟩
  have C1 : Hid (Calls Tryz.prog 36 #[.agg #[.string x.m, .string x.t, .string x.k, .slice a n c]] (w.alloc (.cells #[.string x.m, .string x.t, .string x.k, .slice a n c] 26)) fun e w' => ∃ b' c', e = .returned (.slice (some ⟨b', 0, none⟩) (wrL x).length c') ∧ Bts w' (some ⟨b', 0, none⟩) (wrL x).length c' (wrL x) ∧ (w.alloc (.cells #[.string x.m, .string x.t, .string x.k, .slice a n c] 26)).heap.size ≤ b' ∧ Below (w.alloc (.cells #[.string x.m, .string x.t, .string x.k, .slice a n c] 26)).heap.size (w.alloc (.cells #[.string x.m, .string x.t, .string x.k, .slice a n c] 26)) w') := wwritten_any x a n c _ HBT.out hs (he.up hB1)
  unfold reqV
  generalize hw1 : w.alloc (.cells #[.string x.m, .string x.t, .string x.k, .slice a n c] 26) = W1 at *
  clear hB1 hb hs he
  go_enter Tryz.func23, Tryz.ntmps23
  go_wp2_with (refine wpList_load_row rfl 26 (.tmp 1) rfl w.heap.size rfl 26 #[.string x.m, .string x.t, .string x.k, .slice a n c] (0, 0) _ HROW.out Tryz.underlying26 rfl req_info ?_)
  refine C1.out.mono ?_
  rintro e w2 ⟨b2, c2, rfl, hbt2, hbb2, hb2⟩
  clear hw1 C1
  have HB2 := Bx.mk (bstep HB1.out hb2)
  have HBT2 := Bx.mk hbt2
  have HXB2 := Bx.mk (HBT.out.below hb2)
  have HROW2 : Bx (w2.heap[w.heap.size]? = some (.cells #[.string x.m, .string x.t, .string x.k, .slice a n c] 26 (0, 0))) := ⟨by rw [hb2.block _ (by have := HSZ.out; omega)]; exact HROW.out⟩
  clear hbt2 hbb2 hb2
  go_wp2_with fail
  refine (wwhole_any _ _ _ _ _ HBT2.out (HE.out.up HB2.out)).mono ?_
  rintro e w3 ⟨v3, rfl, hy3, ho3, hb3⟩
  obtain ⟨va, vc, rfl, hq3⟩ := wh_body hy3 ho3
  have HPT : Bx (prT x = runQ wp0 ws0 (wrL x) 0) := ⟨rfl⟩
  have HPB : Bx (prB x = (decide ((prT x).2.2 = 0) && (decide ((prT x).2.1 = (wrL x).length) && smW x (prT x).1))) := ⟨rfl⟩
  rw [HPT.out] at HPB
  generalize runQ wp0 ws0 (wrL x) 0 = T at *
  obtain ⟨T1, T2, T3⟩ := T
  have hb4 : Below w3.heap.size w3 (w3.alloc (.cells #[.string T1.m, .string T1.t, .string T1.k, .slice va T1.b.length vc] 26)) := (Below.refl _ _).alloc (Nat.le_refl _) _
  have HB4 := Bx.mk (bstep (bstep HB2.out hb3) hb4)
  have HBT4 := Bx.mk ((HBT2.out.below hb3).below hb4)
  have HXB4 := Bx.mk ((HXB2.out.below hb3).below hb4)
  have HQ4 := Bx.mk (hq3.below hb4)
  have hz2 := (Array.getElem?_eq_some_iff.1 HROW2.out).1
  have HRX : Bx ((w3.alloc (.cells #[.string T1.m, .string T1.t, .string T1.k, .slice va T1.b.length vc] 26)).heap[w.heap.size]? = some (.cells #[.string x.m, .string x.t, .string x.k, .slice a n c] 26 (0, 0))) := ⟨by rw [hb4.block _ (Nat.lt_of_lt_of_le hz2 hb3.size), hb3.block _ hz2]; exact HROW2.out⟩
  have HRY : Bx ((w3.alloc (.cells #[.string T1.m, .string T1.t, .string T1.k, .slice va T1.b.length vc] 26)).heap[w3.heap.size]? = some (.cells #[.string T1.m, .string T1.t, .string T1.k, .slice va T1.b.length vc] 26 (0, 0))) := ⟨heap_alloc_new w3 _⟩
  obtain ⟨W4, hW4⟩ : ∃ W4, w3.alloc (.cells #[.string T1.m, .string T1.t, .string T1.k, .slice va T1.b.length vc] 26) = W4 := ⟨_, rfl⟩
  rw [hW4] at HB4 HBT4 HXB4 HQ4 HRX HRY
  have HW4 := Bx.mk hW4
  have C2 : Hid (Calls Tryz.prog 37 #[.agg #[.string x.m, .string x.t, .string x.k, .slice a n c], .agg #[.string T1.m, .string T1.t, .string T1.k, .slice va T1.b.length vc]] W4 fun e w' => e = .returned (.bool (smW x T1)) ∧ Below W4.heap.size W4 w') := wsame_any x T1 a va n T1.b.length c vc W4 HXB4.out HQ4.out
  have x0 : W4.cell? ⟨w.heap.size, 0, none⟩ = some (.string x.m) := by rw [cell_of_row _ w.heap.size 0 _ _ (0, 0) HRX.out]; rfl
  have x1 : W4.cell? ⟨w.heap.size, 1, none⟩ = some (.string x.t) := by rw [cell_of_row _ w.heap.size 1 _ _ (0, 0) HRX.out]; rfl
  have x2 : W4.cell? ⟨w.heap.size, 2, none⟩ = some (.string x.k) := by rw [cell_of_row _ w.heap.size 2 _ _ (0, 0) HRX.out]; rfl
  have x3 : W4.cell? ⟨w.heap.size, 3, none⟩ = some (.slice a n c) := by rw [cell_of_row _ w.heap.size 3 _ _ (0, 0) HRX.out]; rfl
  have y0 : W4.cell? ⟨w3.heap.size, 0, none⟩ = some (.string T1.m) := by rw [cell_of_row _ w3.heap.size 0 _ _ (0, 0) HRY.out]; rfl
  have y1 : W4.cell? ⟨w3.heap.size, 1, none⟩ = some (.string T1.t) := by rw [cell_of_row _ w3.heap.size 1 _ _ (0, 0) HRY.out]; rfl
  have y2 : W4.cell? ⟨w3.heap.size, 2, none⟩ = some (.string T1.k) := by rw [cell_of_row _ w3.heap.size 2 _ _ (0, 0) HRY.out]; rfl
  have y3 : W4.cell? ⟨w3.heap.size, 3, none⟩ = some (.slice va T1.b.length vc) := by rw [cell_of_row _ w3.heap.size 3 _ _ (0, 0) HRY.out]; rfl
  simp only at HPB
  have HLX : Bx ((wrL x).length < 1000000) := ⟨by unfold wrL; rw [List.length_append, strL_length]; have := (wrB_size HS.out).1; have := HS.out.b; omega⟩
  obtain ⟨N, hN⟩ : ∃ N, (wrL x).length = N := ⟨_, rfl⟩
  rw [hN] at HPB HBT4 HLX ⊢
  have HNN := Bx.mk hN
  clear hW4 hb4 hb3 ho3 hq3 hy3 hz2 HBT2 HXB2 HROW HROW2 HBT hN HPT
  generalize hSM : smW x T1 = SM at *
  unfold reqV
  simp only
  go_upto_region 3 with (rw [HW4.out]; clear HW4)
  by_cases h3 : T3 = 0
  · have g3 : (T3 != 0) = false := by simpa using h3
    by_cases h2 : T2 = N
    · have g2 : ((T2 : Int) != (N : Int)) = false := by simp [h2]
      have HR : Bx (prB x = SM) := ⟨by rw [HPB.out, decide_eq_true h3, decide_eq_true h2]; rfl⟩
      clear h3 h2 HPB
      go_wp2_with fail
      refine C2.out.mono ?_
      rintro e w6 ⟨rfl, hb6⟩
      have HB6 := Bx.mk (bstep HB4.out hb6)
      have HBT6 := Bx.mk (HBT4.out.below hb6)
      clear hb6
      cases SM with
      | true =>
        go_wp2
        go_ret2
        exact ⟨HB6.out, .inl ⟨HR.out, b2, c2, by rw [HNN.out]; rfl, by rw [HNN.out]; exact HBT6.out⟩⟩
      | false =>
        go_wp2
        go_ret2
        exact ⟨HB6.out, .inr ⟨HR.out, rfl⟩⟩
    · have g2 : ((T2 : Int) != (N : Int)) = true := by simp; omega
      have HR : Bx (prB x = false) := ⟨by rw [HPB.out, decide_eq_false h2]; simp⟩
      clear h3 h2 HPB
      go_wp2
      go_ret2
      exact ⟨HB4.out, .inr ⟨HR.out, rfl⟩⟩
  · have g3 : (T3 != 0) = true := by simpa using h3
    have HR : Bx (prB x = false) := ⟨by rw [HPB.out, decide_eq_false h3]; rfl⟩
    clear h3 HPB
    go_wp2
    go_ret2
    exact ⟨HB4.out, .inr ⟨HR.out, rfl⟩⟩
end Go.Proofs.YtdameoejigpnhaaGreatDoor
