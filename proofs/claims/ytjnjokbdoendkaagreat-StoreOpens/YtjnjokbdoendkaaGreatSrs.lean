/- What frame.Read answers, and the document's Read. What the document's Read answers. -/
import Derived.Test.YtjnjokbdoendkaaGreatFPut
import Derived.Test.YtjnjokbdoendkaaGreatSma
namespace Go.Proofs.YtjnjokbdoendkaaGreat
open Go.RowKit
set_option linter.unusedVariables false

set_option maxRecDepth 100000 in
theorem rd_no {l : List Int} (h : rdE l ≠ 0) : rdS l = 0 ∧ rdT l = [] ∧ rdN l = 0 := by
  unfold rdS rdT rdN; rw [if_neg h, if_neg h, if_neg h]; exact ⟨rfl, rfl, rfl⟩
set_option maxRecDepth 100000 in
theorem rd_short {l : List Int} (h : l.length < 16) : rdE l = 3 := by unfold rdE; rw [if_pos h]
set_option maxRecDepth 100000 in
theorem rd_sum {l : List Int} (h : ¬ l.length < 16) (h2 : (l.drop 12).take 4 ≠ four (crcN (l.take 12))) : rdE l = 13 := by unfold rdE; rw [if_neg h, if_pos h2]
set_option maxRecDepth 100000 in
theorem rd_form {l : List Int} (h : ¬ l.length < 16) (h2 : (l.drop 12).take 4 = four (crcN (l.take 12))) (h3 : getV ((l.drop 4).take 8) = 0) : rdE l = 4 := by unfold rdE; rw [if_neg h, if_neg (fun k => k h2), if_pos h3]
set_option maxRecDepth 100000 in
theorem rd_big {l : List Int} (h : ¬ l.length < 16) (h2 : (l.drop 12).take 4 = four (crcN (l.take 12))) (h3 : getV ((l.drop 4).take 8) ≠ 0) (h4 : 16384 < getV (l.take 4)) : rdE l = 5 := by unfold rdE; rw [if_neg h, if_neg (fun k => k h2), if_neg h3, if_pos h4]
set_option maxRecDepth 100000 in
theorem rd_less {l : List Int} (h : ¬ l.length < 16) (h2 : (l.drop 12).take 4 = four (crcN (l.take 12))) (h3 : getV ((l.drop 4).take 8) ≠ 0) (h4 : ¬ 16384 < getV (l.take 4)) (h5 : l.length < 20 + rdC l) : rdE l = 3 := by unfold rdE; rw [if_neg h, if_neg (fun k => k h2), if_neg h3, if_neg h4, if_pos h5]
set_option maxRecDepth 100000 in
theorem rd_text {l : List Int} (h : ¬ l.length < 16) (h2 : (l.drop 12).take 4 = four (crcN (l.take 12))) (h3 : getV ((l.drop 4).take 8) ≠ 0) (h4 : ¬ 16384 < getV (l.take 4)) (h5 : ¬ l.length < 20 + rdC l) (h6 : (l.drop (16 + rdC l)).take 4 ≠ four (crcN ((l.drop 16).take (rdC l)))) : rdE l = 13 := by unfold rdE; rw [if_neg h, if_neg (fun k => k h2), if_neg h3, if_neg h4, if_neg h5, if_pos h6]
/-- what reading answers -/
def RdP (l : List Int) (w : World) (e : Ending) (w' : World) : Prop := ∃ v, e = .returned (.tuple #[.int .u64 (rdS l), v, .int .i64 (rdN l : Int), .int .i64 (rdE l)]) ∧ w'.ownsRow w.heap.size 5 1 v (rdT l).length (bv (rdT l)) ∧ Below w.heap.size w w'
set_option maxRecDepth 100000 in
theorem RdP.no {l : List Int} {w w' : World} {E : Int} (h : rdE l = E) (hE : E ≠ 0) (hb : Below w.heap.size w w') : RdP l w (.returned (.tuple #[.int .u64 0, .slice none 0 0, .int .i64 0, .int .i64 E])) w' := by
  obtain ⟨h1, h2, h3⟩ := rd_no (l := l) (by rw [h]; exact hE)
  exact ⟨_, by rw [h1, h3, h]; rfl, by rw [h2]; exact World.ownsRow_nil _ _ _ _, hb⟩
set_option maxRecDepth 100000 in
theorem RdP.yes {l : List Int} {w w' : World} {v : Value} {S Z : Int} {n : Nat} (h : rdE l = 0) (hS : getV ((l.drop 4).take 8) = S) (hn : rdC l = n) (hZ : Z = 20 + (n : Int)) (ho : w'.ownsRow w.heap.size 5 1 v n (bv ((l.drop 16).take n))) (hb : Below w.heap.size w w') : RdP l w (.returned (.tuple #[.int .u64 S, v, .int .i64 Z, .int .i64 0])) w' := by
  obtain ⟨h1, h2, h3, h4, h5, h6⟩ := (rdE_ok l).1 h
  have e1 : rdS l = S := by unfold rdS; rw [if_pos h, hS]
  have e2 : rdT l = (l.drop 16).take n := by unfold rdT; rw [if_pos h, hn]
  have e3 : rdN l = 20 + n := by unfold rdN; rw [if_pos h, hn]
  have e4 : (rdT l).length = n := by rw [e2, List.length_take, List.length_drop]; omega
  exact ⟨v, by rw [e1, e3, h, hZ]; rfl, by rw [e4, e2]; exact ho, hb⟩
set_option maxRecDepth 100000 in
set_option maxHeartbeats 1000000 in
theorem read8_any (a : Option Addr) (len cap : Nat) (l : List Int) (w : World) (h : Bts w a len cap l) :
    Calls Tryz.prog 95 #[.slice a len cap] w (RdP l w) := by
  have hl := h.len_eq
  have hlc := h.le_cap
  have hcm := h.cap_le
  have hcm' := hcm
  unfold maxLen at hcm'
  by_cases h16 : len < 16
  · have HE : Bx (rdE l = 3) := ⟨rd_short (by omega)⟩
    have h16' : (len : Int) < 16 := by omega
    clear hl
    go_enter Tryz.func95, Tryz.ntmps95
    go_wp2
    exact bodyPost_ret (v := .tuple #[.int .u64 0, .slice none 0 0, .int .i64 0, .int .i64 3]) (by simp [results, Tryz.results95, go_sem]) rfl (RdP.no HE.out (by decide) (Below.refl _ _))
  · have h16' : ¬ (len : Int) < 16 := by omega
    obtain ⟨b, off, rfl, _, _⟩ := h.spot (by omega)
    have hp4 := h.cut 4 (by omega)
    have hp8 := h.part 4 8 (cap - 4) (by omega) (by omega) (by omega)
    have hpr := h.part 16 (len - 16) (cap - 16) (by omega) (by omega) (by omega)
    rw [List.take_of_length_le (by rw [List.length_drop]; omega)] at hpr
    have hL16 : ¬ l.length < 16 := by omega
    have k4 : (4 : Int) ≤ (cap : Int) := by omega
    have k12 : (12 : Int) ≤ (cap : Int) := by omega
    have k16 : (16 : Int) ≤ (len : Int) := by omega
    have v4 := getV_small (l.take 4) hp4.byt 4 (List.length_take_le _ _) (by decide)
    have v8 := getV_bd ((l.drop 4).take 8) hp8.byt
    rw [hp8.len_eq] at v8
    obtain ⟨N, hN⟩ : ∃ N : Nat, getV (l.take 4) = (N : Int) := ⟨(getV (l.take 4)).toNat, by omega⟩
    have hC : rdC l = N := by unfold rdC; rw [hN]; rfl
    have HG4 : Bx (∀ w', Below w.heap.size w w' → Calls Tryz.prog 119 #[.slice (some ⟨b, off, none⟩) 4 cap] w' fun e w'' => e = .returned (.tuple #[.int .u64 (N : Int), .bool true]) ∧ w' = w'') := ⟨fun w' hw => by rw [← hN]; exact get_some _ _ _ _ _ (hp4.below hw) (by decide) (by decide)⟩
    have HG8 : Bx (∀ w', Below w.heap.size w w' → Calls Tryz.prog 119 #[.slice (some ⟨b, off + 4, none⟩) 8 (cap - 4)] w' fun e w'' => e = .returned (.tuple #[.int .u64 (getV ((l.drop 4).take 8)), .bool true]) ∧ w' = w'') := ⟨fun w' hw => get_some _ _ _ _ _ (hp8.below hw) (by decide) (by decide)⟩
    generalize hS : getV ((l.drop 4).take 8) = S at v8 HG8
    have HS : Bx (getV ((l.drop 4).take 8) = S) := ⟨hS⟩
    have HN : Bx (getV (l.take 4) = (N : Int)) := ⟨hN⟩
    have HC : Bx (rdC l = N) := ⟨hC⟩
    have HL : Bx (l.length = len) := ⟨hl⟩
    clear hp4 hp8 hS hN hC v4 hl
    go_enter Tryz.func95, Tryz.ntmps95
    go_wp2_with fail
    refine (summed_any _ len cap 12 l _ h (by omega)).mono ?_
    rintro e w1 ⟨rfl, hb1⟩
    by_cases h2 : (l.drop 12).take 4 = four (crcN (l.take 12))
    · rw [decide_eq_true h2]
      have H2 : Bx ((l.drop 12).take 4 = four (crcN (l.take 12))) := ⟨h2⟩
      clear h2
      go_wp2_with fail
      refine (HG4.out _ hb1).mono ?_
      rintro e w' ⟨rfl, rfl⟩
      clear HG4
      go_wp2_with fail
      refine (HG8.out _ hb1).mono ?_
      rintro e w' ⟨rfl, rfl⟩
      clear HG8
      by_cases h3 : S = 0
      · have HE : Bx (rdE l = 4) := ⟨rd_form hL16 H2.out (by rw [HS.out, h3])⟩
        go_wp2
        exact bodyPost_ret (v := .tuple #[.int .u64 0, .slice none 0 0, .int .i64 0, .int .i64 4]) (by simp [results, Tryz.results95, go_sem]) rfl (RdP.no HE.out (by decide) hb1)
      · have h3b : (S == 0) = false := by simpa using h3
        have H3 : Bx (getV ((l.drop 4).take 8) ≠ 0) := ⟨by rw [HS.out]; exact h3⟩
        by_cases h4 : 16384 < N
        · have HE : Bx (rdE l = 5) := ⟨rd_big hL16 H2.out H3.out (by rw [HN.out]; omega)⟩
          have h4' : (16384 : Int) < (N : Int) := by omega
          go_wp2
          exact bodyPost_ret (v := .tuple #[.int .u64 0, .slice none 0 0, .int .i64 0, .int .i64 5]) (by simp [results, Tryz.results95, go_sem]) rfl (RdP.no HE.out (by decide) hb1)
        · have H4 : Bx (getV (l.take 4) ≤ 16384) := ⟨by rw [HN.out]; omega⟩
          have h4' : ¬ (16384 : Int) < (N : Int) := by omega
          have hcv : IntKind.i64.wrap (N : Int) = (N : Int) := by rw [IntWalk.i64_in _ (by omega)]
          have hd4 : IntKind.i64.wrap ((N : Int) + 4) = (N : Int) + 4 := by rw [IntWalk.i64_in _ (by omega)]
          by_cases hc16 : cap = 16
          · have HE : Bx (rdE l = 3) := ⟨rd_less hL16 H2.out H3.out (Int.not_lt.2 H4.out) (by rw [HC.out, HL.out]; omega)⟩
            have hl16 : len = 16 := by omega
            subst hc16 hl16
            have h5' : (0 : Int) < (N : Int) + 4 := by omega
            go_wp2_with fail
            go_quiet (fail)
            have hbq := below_drewN hb1 nq
            go_wp2
            exact bodyPost_ret (v := .tuple #[.int .u64 0, .slice none 0 0, .int .i64 0, .int .i64 3]) (by simp [results, Tryz.results95, go_sem]) rfl (RdP.no HE.out (by decide) hbq)
          go_wp2_with fail
          go_quiet (fail)
          have hpq := hpr.below (below_drewN hb1 nq)
          have hbq := below_drewN hb1 nq
          by_cases h5 : len < 20 + N
          · have HE : Bx (rdE l = 3) := ⟨rd_less hL16 H2.out H3.out (Int.not_lt.2 H4.out) (by rw [HC.out, HL.out]; omega)⟩
            have h5' : ((len - 16 : Nat) : Int) < (N : Int) + 4 := by omega
            go_wp2
            exact bodyPost_ret (v := .tuple #[.int .u64 0, .slice none 0 0, .int .i64 0, .int .i64 3]) (by simp [results, Tryz.results95, go_sem]) rfl (RdP.no HE.out (by decide) hbq)
          · have H5 : Bx (20 + rdC l ≤ l.length) := ⟨by rw [HC.out, HL.out]; omega⟩
            have h5' : ¬ ((len - 16 : Nat) : Int) < (N : Int) + 4 := by omega
            have h5n : N + 4 ≤ len - 16 := by omega
            have k5 : (N : Int) ≤ ((cap - 16 : Nat) : Int) := by omega
            go_wp2_with fail
            refine (summed_any _ (len - 16) (cap - 16) N (l.drop 16) _ hpq h5n).mono ?_
            rintro e w2 ⟨rfl, hb2⟩
            rw [List.drop_drop]
            have hb2' := bstep hbq hb2
            by_cases h6 : (l.drop (16 + N)).take 4 = four (crcN ((l.drop 16).take N))
            · rw [decide_eq_true h6]
              have HE : Bx (rdE l = 0) := ⟨(rdE_ok l).2 ⟨by omega, H2.out, H3.out, H4.out, H5.out, by rw [HC.out]; exact h6⟩⟩
              have hpt := (hpq.below hb2).cut N (by omega)
              clear h6 hpq hpr hb2 hbq hb1
              go_wp2_with fail
              refine (clone_any _ N _ _ _ hpt (by omega)).mono ?_
              rintro e w3 ⟨v3, rfl, hown3, hb3⟩
              have hown3' := owns_base hown3 hb2'.size
              have hb3' := bstep hb2' hb3
              clear hown3 hb3 hpt hb2'
              go_wp2_with fail
              refine (size_any (N : Int) _ (by omega)).mono ?_
              rintro e w' ⟨rfl, rfl⟩
              have HZ : Hid (20 + max (N : Int) 0 = 20 + (N : Int)) := by show _ = _; omega
              generalize 20 + max (N : Int) 0 = Z at HZ ⊢
              go_wp2
              exact bodyPost_ret (v := .tuple #[.int .u64 S, v3, .int .i64 Z, .int .i64 0]) (by simp [results, Tryz.results95, go_sem]) rfl (RdP.yes HE.out HS.out HC.out HZ.out hown3' hb3')
            · rw [decide_eq_false h6]
              have HE : Bx (rdE l = 13) := ⟨rd_text hL16 H2.out H3.out (Int.not_lt.2 H4.out) (Nat.not_lt.2 H5.out) (by rw [HC.out]; exact h6)⟩
              clear h6
              go_wp2
              exact bodyPost_ret (v := .tuple #[.int .u64 0, .slice none 0 0, .int .i64 0, .int .i64 13]) (by simp [results, Tryz.results95, go_sem]) rfl (RdP.no HE.out (by decide) hb2')
    · rw [decide_eq_false h2]
      have HE : Bx (rdE l = 13) := ⟨rd_sum hL16 h2⟩
      clear h2
      go_wp2
      exact bodyPost_ret (v := .tuple #[.int .u64 0, .slice none 0 0, .int .i64 0, .int .i64 13]) (by simp [results, Tryz.results95, go_sem]) rfl (RdP.no HE.out (by decide) hb1)
end Go.Proofs.YtjnjokbdoendkaaGreat
namespace Go.Proofs.YtjnjokbdoendkaaGreat
open Go.RowKit
set_option linter.unusedVariables false

set_option maxRecDepth 100000 in
set_option maxHeartbeats 2000000 in
theorem refread8_any (a : Option Addr) (len cap : Nat) (l : List Int) (w : World) (hbt : Bts w a len cap l) :
    Calls Tryz.prog 67 #[.slice a len cap] w (RdP l w) := by
  have hl := hbt.len_eq
  have hlc := hbt.le_cap
  have hcm := hbt.cap_le
  have hcm' := hcm
  unfold maxLen at hcm'
  by_cases h16 : len < 16
  · have HE : Bx (rdE l = 3) := ⟨rd_short (by omega)⟩
    have h16' : (len : Int) < 16 := by omega
    clear hl
    go_enter Tryz.func67, Tryz.ntmps67
    go_wp2
    exact bodyPost_ret (v := .tuple #[.int .u64 0, .slice none 0 0, .int .i64 0, .int .i64 3]) (by simp [results, Tryz.results67, go_sem]) rfl (RdP.no HE.out (by decide) (Below.refl _ _))
  · have h16' : ¬ (len : Int) < 16 := by omega
    obtain ⟨b, off, rfl, _, _⟩ := hbt.spot (by omega)
    have hp4 := hbt.cut 4 (by omega)
    have hp8 := hbt.part 4 8 (cap - 4) (by omega) (by omega) (by omega)
    have hp12 := hbt.cut 12 (by omega)
    have hps := hbt.part 12 4 (cap - 12) (by omega) (by omega) (by omega)
    have hL16 : ¬ l.length < 16 := by omega
    have k4 : (4 : Int) ≤ (cap : Int) := by omega
    have k12 : (12 : Int) ≤ (cap : Int) := by omega
    have k16 : (16 : Int) ≤ (cap : Int) := by omega
    have v4 := getV_small (l.take 4) hp4.byt 4 (List.length_take_le _ _) (by decide)
    have v8 := getV_bd ((l.drop 4).take 8) hp8.byt
    rw [hp8.len_eq] at v8
    obtain ⟨N, hN⟩ : ∃ N : Nat, getV (l.take 4) = (N : Int) := ⟨(getV (l.take 4)).toNat, by omega⟩
    have hNb : N ≤ 72057594037927935 := by omega
    have hC : rdC l = N := by unfold rdC; rw [hN]; rfl
    have HG4 : Bx (∀ w', Below w.heap.size w w' → Calls Tryz.prog 102 #[.slice (some ⟨b, off, none⟩) 4 cap] w' fun e w'' => e = .returned (.tuple #[.int .u64 (N : Int), .bool true]) ∧ w' = w'') := ⟨fun w' hw => by rw [← hN]; exact refget_some _ _ _ _ _ (hp4.below hw) (by decide) (by decide)⟩
    have HG8 : Bx (∀ w', Below w.heap.size w w' → Calls Tryz.prog 102 #[.slice (some ⟨b, off + 4, none⟩) 8 (cap - 4)] w' fun e w'' => e = .returned (.tuple #[.int .u64 (getV ((l.drop 4).take 8)), .bool true]) ∧ w' = w'') := ⟨fun w' hw => refget_some _ _ _ _ _ (hp8.below hw) (by decide) (by decide)⟩
    have HS1 : Bx (∀ w', Below w.heap.size w w' → Calls Tryz.prog 101 #[.slice (some ⟨b, off, none⟩) 12 cap] w' fun e w'' => e = .returned (.int .u32 (crcN (l.take 12) : Int)) ∧ w' = w'') := ⟨fun w' hw => refcrc_any _ _ _ _ _ (hp12.below hw)⟩
    have HQ1 : Bx (∀ w' a' c', Below w.heap.size w w' → Bts w' a' 4 c' (four (crcN (l.take 12))) → Calls Tryz.prog 33 #[.slice (some ⟨b, off + 12, none⟩) 4 (cap - 12), .slice a' 4 c'] w' fun e w'' => e = .returned (.bool (decide ((l.drop 12).take 4 = four (crcN (l.take 12))))) ∧ ∃ q, w'' = w'.drewN q) := ⟨fun w' a' c' hw hb => same_any _ _ _ _ _ _ _ _ _ (hps.below hw) hb⟩
    have HF1 : Bx (∀ w' : World, Calls Tryz.prog 100 #[.int .u32 (crcN (l.take 12) : Int)] w' fun e w'' => ∃ v, e = .returned v ∧ w''.ownsRow w'.heap.size 5 1 v 4 (bv (four (crcN (l.take 12)))) ∧ Below w'.heap.size w' w'') := ⟨fun w' => four_any _ _ (crcN_lt _)⟩
    generalize hr : decide ((l.drop 12).take 4 = four (crcN (l.take 12))) = r at HQ1
    have HR : Bx (decide ((l.drop 12).take 4 = four (crcN (l.take 12))) = r) := ⟨hr⟩
    generalize crcN (l.take 12) = n12 at HS1 HQ1 HF1
    generalize hS : getV ((l.drop 4).take 8) = S at v8 HG8
    have HS : Bx (getV ((l.drop 4).take 8) = S) := ⟨hS⟩
    have HN : Bx (getV (l.take 4) = (N : Int)) := ⟨hN⟩
    have HC : Bx (rdC l = N) := ⟨hC⟩
    have HL : Bx (l.length = len) := ⟨hl⟩
    have hl0 : Below w.heap.size w w.drew := (Below.refl _ _).drew
    clear hp4 hp8 hS hN hC v4 hl hp12 hps hr
    go_enter Tryz.func67, Tryz.ntmps67
    go_wp2_with fail
    go_region_held3 (fun w' => Below w.heap.size w w') (first | (exact hl0) | (exact bstep (by assumption) hb6) | (exact below_drewN (by assumption) q7) | (assumption)) (first
      | (go_at_call 101; refine (HS1.out _ (by assumption)).mono ?_; rintro e5 w5 ⟨rfl, rfl⟩)
      | (go_at_call 100; refine (HF1.out _).mono ?_; rintro e6 w6 ⟨v6, rfl, hown6, hb6⟩; obtain ⟨a6, c6, rfl, hm6⟩ := Bts.of_owns hown6 (four_byt _))
      | (go_at_call 33; refine (HQ1.out _ _ _ (bstep hl0 hb6) hm6).mono ?_; rintro e7 w7 ⟨rfl, q7, rfl⟩))
    rename_i hb1
    generalize w6.drewN q7 = w1 at hb1 ⊢
    clear HS1 HF1 HQ1 hown6 hm6 hb6 hl0
    cases r with
    | true =>
      have H2 : Bx ((l.drop 12).take 4 = four (crcN (l.take 12))) := ⟨of_decide_eq_true HR.out⟩
      clear HR
      go_wp2_with fail
      refine (HG4.out _ hb1).mono ?_
      rintro e w' ⟨rfl, rfl⟩
      clear HG4
      go_wp2_with fail
      refine (HG8.out _ hb1).mono ?_
      rintro e w' ⟨rfl, rfl⟩
      clear HG8
      by_cases h3 : S = 0
      · have HE : Bx (rdE l = 4) := ⟨rd_form hL16 H2.out (by rw [HS.out, h3])⟩
        go_wp2
        exact bodyPost_ret (v := .tuple #[.int .u64 0, .slice none 0 0, .int .i64 0, .int .i64 4]) (by simp [results, Tryz.results67, go_sem]) rfl (RdP.no HE.out (by decide) hb1)
      · have h3b : (S == 0) = false := by simpa using h3
        have H3 : Bx (getV ((l.drop 4).take 8) ≠ 0) := ⟨by rw [HS.out]; exact h3⟩
        by_cases h4 : 16384 < N
        · have HE : Bx (rdE l = 5) := ⟨rd_big hL16 H2.out H3.out (by rw [HN.out]; omega)⟩
          have h4' : (16384 : Int) < (N : Int) := by omega
          go_wp2
          exact bodyPost_ret (v := .tuple #[.int .u64 0, .slice none 0 0, .int .i64 0, .int .i64 5]) (by simp [results, Tryz.results67, go_sem]) rfl (RdP.no HE.out (by decide) hb1)
        · have H4 : Bx (getV (l.take 4) ≤ 16384) := ⟨by rw [HN.out]; omega⟩
          have h4' : ¬ (16384 : Int) < (N : Int) := by omega
          have hcl : (len : Int) % 18446744073709551616 = (len : Int) := by omega
          have hc20 : (20 + (N : Int)) % 18446744073709551616 = 20 + (N : Int) := by omega
          have hc16 : (16 + (N : Int)) % 18446744073709551616 = 16 + (N : Int) := by omega
          by_cases h5 : len < 20 + N
          · have HE : Bx (rdE l = 3) := ⟨rd_less hL16 H2.out H3.out (Int.not_lt.2 H4.out) (by rw [HC.out, HL.out]; omega)⟩
            have h5' : (len : Int) < 20 + (N : Int) := by omega
            go_wp2
            exact bodyPost_ret (v := .tuple #[.int .u64 0, .slice none 0 0, .int .i64 0, .int .i64 3]) (by simp [results, Tryz.results67, go_sem]) rfl (RdP.no HE.out (by decide) hb1)
          · have H5 : Bx (20 + rdC l ≤ l.length) := ⟨by rw [HC.out, HL.out]; omega⟩
            have h5' : ¬ (len : Int) < 20 + (N : Int) := by omega
            have k1 : (16 : Int) ≤ 16 + (N : Int) := by omega
            have k2 : 16 + (N : Int) ≤ (cap : Int) := by omega
            have k3 : 20 + (N : Int) ≤ (cap : Int) := by omega
            have k5 : 16 + (N : Int) ≤ 20 + (N : Int) := by omega
            have k6 : (0 : Int) ≤ 16 + (N : Int) := by omega
            have n1 : ¬ cap - (16 + N) = 0 := by omega
            have n2 : ¬ cap = 16 + N := by omega
            have n3 : ¬ cap ≤ 16 + N := by omega
            have n4 : (0 : Int) ≤ 20 + (N : Int) := by omega
            have n5 : ¬ (cap : Int) = 16 + (N : Int) := by omega
            have w16 : IntKind.u64.wrap (16 + (N : Int)) = 16 + (N : Int) := by rw [IntKind.wrap_u64]; omega
            have w20 : IntKind.u64.wrap (20 + (N : Int)) = 20 + (N : Int) := by rw [IntKind.wrap_u64]; omega
            have t16 : (16 + (N : Int)).toNat = 16 + N := by omega
            have t20 : (20 + (N : Int)).toNat = 20 + N := by omega
            have t4 : 20 + N - (16 + N) = 4 := by omega
            have tN : 16 + N - 16 = N := by omega
            have hpt := hbt.part 16 N (cap - 16) (by omega) (by omega) (by omega)
            have hps := hbt.part (16 + N) 4 (cap - (16 + N)) (by omega) (by omega) (by omega)
            have HT : Bx (∀ w', Below w.heap.size w w' → Bts w' (some ⟨b, off + 16, none⟩) N (cap - 16) ((l.drop 16).take N)) := ⟨fun w' hw => hpt.below hw⟩
            have HS1 : Bx (∀ w', Below w.heap.size w w' → Calls Tryz.prog 101 #[.slice (some ⟨b, off + 16, none⟩) N (cap - 16)] w' fun e w'' => e = .returned (.int .u32 (crcN ((l.drop 16).take N) : Int)) ∧ w' = w'') := ⟨fun w' hw => refcrc_any _ _ _ _ _ (hpt.below hw)⟩
            have HQ1 : Bx (∀ w' a' c', Below w.heap.size w w' → Bts w' a' 4 c' (four (crcN ((l.drop 16).take N))) → Calls Tryz.prog 33 #[.slice (some ⟨b, off + (16 + N), none⟩) 4 (cap - (16 + N)), .slice a' 4 c'] w' fun e w'' => e = .returned (.bool (decide ((l.drop (16 + N)).take 4 = four (crcN ((l.drop 16).take N))))) ∧ ∃ q, w'' = w'.drewN q) := ⟨fun w' a' c' hw hb => same_any _ _ _ _ _ _ _ _ _ (hps.below hw) hb⟩
            have HF1 : Bx (∀ w' : World, Calls Tryz.prog 100 #[.int .u32 (crcN ((l.drop 16).take N) : Int)] w' fun e w'' => ∃ v, e = .returned v ∧ w''.ownsRow w'.heap.size 5 1 v 4 (bv (four (crcN ((l.drop 16).take N)))) ∧ Below w'.heap.size w' w'') := ⟨fun w' => four_any _ _ (crcN_lt _)⟩
            generalize hr : decide ((l.drop (16 + N)).take 4 = four (crcN ((l.drop 16).take N))) = r at HQ1
            have HR : Bx (decide ((l.drop (16 + N)).take 4 = four (crcN ((l.drop 16).take N))) = r) := ⟨hr⟩
            generalize crcN ((l.drop 16).take N) = nt at HS1 HQ1 HF1
            have hl0 : Below w.heap.size w w1.drew := hb1.drew
            clear hr hpt hps
            go_wp2_with fail
            go_region_held3 (fun w' => Below w.heap.size w w') (first | (exact hl0) | (exact bstep (by assumption) hb6) | (exact below_drewN (by assumption) q7) | (assumption)) (first
              | (go_at_call 101; refine (HS1.out _ (by assumption)).mono ?_; rintro e5 w5 ⟨rfl, rfl⟩)
              | (go_at_call 100; refine (HF1.out _).mono ?_; rintro e6 w6 ⟨v6, rfl, hown6, hb6⟩; obtain ⟨a6, c6, rfl, hm6⟩ := Bts.of_owns hown6 (four_byt _))
              | (go_at_call 33; refine (HQ1.out _ _ _ (bstep hl0 hb6) hm6).mono ?_; rintro e7 w7 ⟨rfl, q7, rfl⟩))
            rename_i hb2
            generalize w6.drewN q7 = w2 at hb2 ⊢
            clear HS1 HF1 HQ1 hown6 hm6 hb6 hl0
            cases r with
            | true =>
              have HE : Bx (rdE l = 0) := ⟨(rdE_ok l).2 ⟨by omega, H2.out, H3.out, H4.out, H5.out, by rw [HC.out]; exact of_decide_eq_true HR.out⟩⟩
              have hcv : IntKind.i64.wrap (N : Int) = (N : Int) := by rw [IntWalk.i64_in _ (by omega)]
              have HZ : Hid ((N : Int) + 20 = 20 + (N : Int)) := by show _ = _; omega
              go_wp2_with fail
              refine (copy_any _ N _ _ _ (HT.out _ hb2) (by omega)).mono ?_
              rintro e w3 ⟨v3, rfl, hown3, hb3⟩
              have hown3' := owns_base hown3 hb2.size
              have hb3' := bstep hb2 hb3
              clear hown3 hb3 hb2 HT
              go_wp2
              exact bodyPost_ret (v := .tuple #[.int .u64 S, v3, .int .i64 ((N : Int) + 20), .int .i64 0]) (by simp [results, Tryz.results67, go_sem]) rfl (RdP.yes HE.out HS.out HC.out HZ.out hown3' hb3')
            | false =>
              have HE : Bx (rdE l = 13) := ⟨rd_text hL16 H2.out H3.out (Int.not_lt.2 H4.out) (Nat.not_lt.2 H5.out) (by rw [HC.out]; exact of_decide_eq_false HR.out)⟩
              go_wp2
              exact bodyPost_ret (v := .tuple #[.int .u64 0, .slice none 0 0, .int .i64 0, .int .i64 13]) (by simp [results, Tryz.results67, go_sem]) rfl (RdP.no HE.out (by decide) hb2)
    | false =>
      have HE : Bx (rdE l = 13) := ⟨rd_sum hL16 (of_decide_eq_false HR.out)⟩
      go_wp2
      exact bodyPost_ret (v := .tuple #[.int .u64 0, .slice none 0 0, .int .i64 0, .int .i64 13]) (by simp [results, Tryz.results67, go_sem]) rfl (RdP.no HE.out (by decide) hb1)
end Go.Proofs.YtjnjokbdoendkaaGreat
