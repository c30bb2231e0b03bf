/- VmSums: what two numbers make: sums, differences, products, quotients, what is left, which is less, whether they are the same. -/
import Derived.Test.YtpbdgacdbhabhaaRows
import Derived.Test.YtpbdgacdbhabhaaCallIn
import Derived.Test.YtpbdgacdbhabhaaVLaw
import Derived.WalkKit
import Derived.ProofKit
import Derived.OpenShut
import Derived.ShutString
import Derived.ChangeOld
import Derived.Below
namespace Go.Proofs.Ytpbdgacdbhabhaa.vmSums
open Go.ChangeShapes Go.WideShapes Go.ChangeAt Go.RowKit
open Go.ChangeMaps (open_string shut_string)
set_option linter.unusedVariables false

theorem own : ownKnob Try.prog.godebug = none := by kernel_rfl
theorem laidOut : laidOutB Try.prog = true := by kernel_rfl

def smL (a b : Int) (q : Nat) : List Int := match jnd (8 + (q : Int)) a b with | some y => [1, 0, 0, 0, 0, y, 4] | none => [2, 0, 0, 0, 0, 0, 3]
theorem smL_len (a b : Int) (q : Nat) : (smL a b q).length = 7 := by unfold smL; split <;> rfl
theorem smL_step (a b : Int) (q : Nat) (h : q < 7) : stC (stpV [⟨0, a⟩, ⟨6, 0⟩, ⟨8 + (q : Int), 0⟩, ⟨18, 0⟩] [0, 0, 0, 0] 0 b 9) = .agg (ivA (smL a b q)) := by
  rw [sums_run a b (o := 8 + (q : Int)) (by omega)]
  unfold smL
  cases jnd (8 + (q : Int)) a b <;> rfl
theorem sums_ins (w : World) (a o : Int) : Ics (w.alloc (.cells #[.int .i64 0, .int .i64 a, .int .i64 6, .int .i64 0, .int .i64 o, .int .i64 0, .int .i64 18, .int .i64 0] 36)) (some ⟨w.heap.size, 0, none⟩) 4 4 [⟨0, a⟩, ⟨6, 0⟩, ⟨o, 0⟩, ⟨18, 0⟩] := by
  have hown : (w.alloc (.cells #[.int .i64 0, .int .i64 a, .int .i64 6, .int .i64 0, .int .i64 o, .int .i64 0, .int .i64 18, .int .i64 0] 36)).ownsRow w.heap.size 36 2 (.slice (some ⟨w.heap.size, 0, none⟩) 4 4) 4 ([(⟨0, a⟩ : Ic), ⟨6, 0⟩, ⟨o, 0⟩, ⟨18, 0⟩].flatMap icC) := World.ownsRow_lit w #[.int .i64 0, .int .i64 a, .int .i64 6, .int .i64 0, .int .i64 o, .int .i64 0, .int .i64 18, .int .i64 0] 4 (Nat.le_refl _) (by unfold maxLen; omega) rfl
  obtain ⟨ao, cap, e, hE⟩ := Ls.of_owns icC_len hown rfl
  cases e
  exact hE
theorem sums_k {a o : Int} (ha : V64 a) : IcsK [⟨0, a⟩, ⟨6, 0⟩, ⟨o, 0⟩, ⟨18, 0⟩] := fun y hy => by
  rcases List.mem_cons.1 hy with e | hy
  · rw [e]; exact ha
  rcases List.mem_cons.1 hy with e | hy
  · rw [e]; exact zero_in
  rcases List.mem_cons.1 hy with e | hy
  · rw [e]; exact zero_in
  rcases List.mem_cons.1 hy with e | hy
  · rw [e]; exact zero_in
  cases hy
/-- so many steps were put down -/
def SmR (a b : Int) (m : Nat) (R : List Int) : Prop := ∀ q, q < m → ∀ t, t < 7 → R.getD (q * 7 + t) 0 = (smL a b q).getD t 0
theorem seven_list {S : List Int} (h : S.length = 7) : ∃ a b c d e f g, S = [a, b, c, d, e, f, g] := by
  match S, h with
  | [a, b, c, d, e, f, g], _ => exact ⟨a, b, c, d, e, f, g, rfl⟩
theorem SmR.put {a b : Int} {m : Nat} {R : List Int} (h : SmR a b m R) (hl : R.length = 49) (hm : m < 7) {y0 y1 y2 y3 y4 y5 y6 : Int} (hy : smL a b m = [y0, y1, y2, y3, y4, y5, y6]) : SmR a b (m + 1) (((((((R.set (m * 7) y0).set (m * 7 + 1) y1).set (m * 7 + 2) y2).set (m * 7 + 3) y3).set (m * 7 + 4) y4).set (m * 7 + 5) y5).set (m * 7 + 6) y6) := fun q hq t ht => by
  have e : ∀ j, (((((((R.set (m * 7) y0).set (m * 7 + 1) y1).set (m * 7 + 2) y2).set (m * 7 + 3) y3).set (m * 7 + 4) y4).set (m * 7 + 5) y5).set (m * 7 + 6) y6).getD j 0 = if j = m * 7 + 6 then y6 else if j = m * 7 + 5 then y5 else if j = m * 7 + 4 then y4 else if j = m * 7 + 3 then y3 else if j = m * 7 + 2 then y2 else if j = m * 7 + 1 then y1 else if j = m * 7 then y0 else R.getD j 0 := fun j => by
    rw [getD_set _ _ _ _ (by simp only [List.length_set]; omega), getD_set _ _ _ _ (by simp only [List.length_set]; omega), getD_set _ _ _ _ (by simp only [List.length_set]; omega), getD_set _ _ _ _ (by simp only [List.length_set]; omega), getD_set _ _ _ _ (by simp only [List.length_set]; omega), getD_set _ _ _ _ (by simp only [List.length_set]; omega), getD_set _ _ _ _ (by omega)]
  rw [e]
  by_cases hqm : q = m
  · subst hqm
    rw [hy]
    match t, ht with
    | 0, _ => rw [if_neg (by omega), if_neg (by omega), if_neg (by omega), if_neg (by omega), if_neg (by omega), if_neg (by omega), if_pos (by omega)]; rfl
    | 1, _ => rw [if_neg (by omega), if_neg (by omega), if_neg (by omega), if_neg (by omega), if_neg (by omega), if_pos (by omega)]; rfl
    | 2, _ => rw [if_neg (by omega), if_neg (by omega), if_neg (by omega), if_neg (by omega), if_pos (by omega)]; rfl
    | 3, _ => rw [if_neg (by omega), if_neg (by omega), if_neg (by omega), if_pos (by omega)]; rfl
    | 4, _ => rw [if_neg (by omega), if_neg (by omega), if_pos (by omega)]; rfl
    | 5, _ => rw [if_neg (by omega), if_pos (by omega)]; rfl
    | 6, _ => rw [if_pos (by omega)]; rfl
  · rw [if_neg (by omega), if_neg (by omega), if_neg (by omega), if_neg (by omega), if_neg (by omega), if_neg (by omega), if_neg (by omega)]
    exact h q (by omega) t ht
theorem jnd8 (a b : Int) : jnd 8 a b = some (w64 (a + b)) := by unfold jnd; rw [if_pos rfl]
theorem jnd9 (a b : Int) : jnd 9 a b = some (w64 (a - b)) := by unfold jnd; rw [if_neg (by decide), if_pos rfl]
theorem jnd10 (a b : Int) : jnd 10 a b = some (w64 (a * b)) := by unfold jnd; rw [if_neg (by decide), if_neg (by decide), if_pos rfl]
theorem jnd13 (a b : Int) : jnd 13 a b = some (if a < b then 1 else 0) := by unfold jnd; rw [if_neg (by decide), if_neg (by decide), if_neg (by decide), if_pos rfl]
theorem jnd14 (a b : Int) : jnd 14 a b = some (if a = b then 1 else 0) := by unfold jnd; rw [if_neg (by decide), if_neg (by decide), if_neg (by decide), if_neg (by decide), if_pos rfl]
theorem jnd11z (a : Int) : jnd 11 a 0 = none := by unfold jnd; simp
theorem jnd12z (a : Int) : jnd 12 a 0 = none := by unfold jnd; simp
theorem smL_some {a b : Int} {q : Nat} {o y : Int} (ho : 8 + (q : Int) = o) (h : jnd o a b = some y) : smL a b q = [1, 0, 0, 0, 0, y, 4] := by unfold smL; rw [ho, h]
theorem smL_none {a b : Int} {q : Nat} {o : Int} (ho : 8 + (q : Int) = o) (h : jnd o a b = none) : smL a b q = [2, 0, 0, 0, 0, 0, 3] := by unfold smL; rw [ho, h]
theorem sum_cell {T : TypeId} {w : World} {g : Nat} {R : List Int} {a b : Int} (h : Nb T 49 w g R) (hR : SmR a b 7 R) (q t : Nat) (hq : q < 7) (ht : t < 7) {L : List Int} (hs : smL a b q = L) {i : Nat} (hi : i = q * 7 + t) {y : Int} (hy : L.getD t 0 = y) : w.cell? ⟨g, i, none⟩ = some (.int .i64 y) := by
  rw [h.cell i (by omega), hi, hR q hq t ht, hs, hy]

set_option maxRecDepth 100000 in
set_option maxHeartbeats 4000000 in
theorem walk (a : Int) (b : Int) (w : World) (ha : I64 a) (hb : I64 b) :
    Calls Try.prog 7 #[.int .i64 a, .int .i64 b] w fun e w' => e = .returned (.bool true) ∧ Below w.heap.size w w' := by
  have HA : Bx (V64 a) := ⟨ha⟩
  have HBV : Bx (V64 b) := ⟨hb⟩
  obtain ⟨g, HG⟩ : ∃ g, Bx (g = w.heap.size) := ⟨_, ⟨rfl⟩⟩
  have HN0 : Bx (Nb 49 49 (w.alloc (.cells (ivA (List.replicate 49 0)) 49)) g (List.replicate 49 0)) := ⟨by rw [HG.out]; exact Nb.new w (List.replicate 49 0) 49⟩
  clear ha hb
  go_enter Try.func7, Try.ntmps7
  go_upto_region 2 with fail
  rw [← HG.out]
  generalize hW : World.alloc w _ = w0
  have HN : Bx (Nb 49 49 w0 g (List.replicate 49 0)) := ⟨by rw [← hW]; exact HN0.out⟩
  have HB0 : Bx (Below w.heap.size w w0) := ⟨by rw [← hW]; exact (Below.refl _ _).alloc (Nat.le_refl _) _⟩
  have HGE : Bx (w.heap.size ≤ g) := ⟨by rw [HG.out]; exact Nat.le_refl _⟩
  clear hW HN0 HG
  go_wp2_with fail
  go_loopw [6] (fun i wr => ∃ (m : Nat) (R : List Int), m ≤ 7 ∧ i = .int .i64 m ∧ Bx (Nb 49 49 wr g R) ∧ Bx (SmR a b m R) ∧ Bx (Below w.heap.size w wr)) (fun i _ => 7 - (intOf i).toNat)
  case atStart => exact ⟨0, _, Nat.zero_le _, rfl, HN, ⟨fun q hq => absurd hq (Nat.not_lt_zero _)⟩, HB0⟩
  case round =>
    clear HN HB0
    obtain ⟨m, R, hm, rfl, HN, HR, HB⟩ := hrel
    by_cases hlt : m < 7
    · have hmI : (m : Int) < 7 := by omega
      have HE := Bx.mk (sums_ins wr a (8 + (m : Int)))
      have HB1 : Bx (Below wr.heap.size wr (wr.alloc (.cells #[.int .i64 0, .int .i64 a, .int .i64 6, .int .i64 0, .int .i64 (8 + (m : Int)), .int .i64 0, .int .i64 18, .int .i64 0] 36))) := ⟨(Below.refl _ _).alloc (Nat.le_refl _) _⟩
      have HTH : Bx ((thr [⟨0, a⟩, ⟨6, 0⟩, ⟨8 + (m : Int), 0⟩, ⟨18, 0⟩]).2.2 = 0) := ⟨sums_thr a (by omega)⟩
      obtain ⟨y0, y1, y2, y3, y4, y5, y6, hy⟩ := seven_list (smL_len a b m)
      have HY := Bx.mk hy
      have HST : Bx (stC (stpV [⟨0, a⟩, ⟨6, 0⟩, ⟨8 + (m : Int), 0⟩, ⟨18, 0⟩] [0, 0, 0, 0] 0 b 9) = .agg #[.int .i64 y0, .int .i64 y1, .int .i64 y2, .int .i64 y3, .int .i64 y4, .int .i64 y5, .int .i64 y6]) := ⟨by rw [smL_step a b m hlt, hy]; rfl⟩
      clear hy
      go_wp2_with fail
      generalize wr.alloc (.cells #[.int .i64 0, .int .i64 a, .int .i64 6, .int .i64 0, .int .i64 (8 + (m : Int)), .int .i64 0, .int .i64 18, .int .i64 0] 36) = w1 at HE HB1 ⊢
      refine (vnew_yes _ 4 4 _ _ HE.out HTH.out).mono ?_
      rintro e w2 ⟨gm, gc, cc, rfl, hmc, _, _, hb2⟩
      have HM := Bx.mk hmc
      have HB2 := Bx.mk (bstep HB1.out hb2)
      clear hmc hb2 HE HB1
      go_wp2_with fail
      refine (step_any gm gc cc _ 0 0 0 0 0 b 9 w2 HM.out (sums_k HA.out) ⟨zero_in, zero_in, zero_in, zero_in⟩ zero_in HBV.out ⟨by decide, by decide⟩).mono ?_
      rintro e w3 ⟨rfl, hb3⟩
      rw [HST.out]
      have HN3 := Bx.mk (HN.out.below (bstep HB2.out hb3))
      have HB3 := Bx.mk (bstep HB.out (bstep HB2.out hb3))
      clear hb3 HB2 HM HN HB HST HTH
      have c0 := HN3.out.cell (m * 7) (by omega)
      have c1 := HN3.out.cell (m * 7 + 1) (by omega)
      have c2 := HN3.out.cell (m * 7 + 2) (by omega)
      have c3 := HN3.out.cell (m * 7 + 3) (by omega)
      have c4 := HN3.out.cell (m * 7 + 4) (by omega)
      have c5 := HN3.out.cell (m * 7 + 5) (by omega)
      have c6 := HN3.out.cell (m * 7 + 6) (by omega)
      have f0 := HN3.out.froz (m * 7)
      have f1 := HN3.out.froz (m * 7 + 1)
      have f2 := HN3.out.froz (m * 7 + 2)
      have f3 := HN3.out.froz (m * 7 + 3)
      have f4 := HN3.out.froz (m * 7 + 4)
      have f5 := HN3.out.froz (m * 7 + 5)
      have f6 := HN3.out.froz (m * 7 + 6)
      have HN4 := Bx.mk (((((((HN3.out.set (m * 7) y0).set (m * 7 + 1) y1).set (m * 7 + 2) y2).set (m * 7 + 3) y3).set (m * 7 + 4) y4).set (m * 7 + 5) y5).set (m * 7 + 6) y6)
      have HR4 := Bx.mk (HR.out.put HN3.out.len hlt HY.out)
      have HB4 : Bx (Below w.heap.size w _) := ⟨((((((HB3.out.setCell (p := ⟨g, m * 7, none⟩) HGE.out (.int .i64 y0)).setCell (p := ⟨g, m * 7 + 1, none⟩) HGE.out (.int .i64 y1)).setCell (p := ⟨g, m * 7 + 2, none⟩) HGE.out (.int .i64 y2)).setCell (p := ⟨g, m * 7 + 3, none⟩) HGE.out (.int .i64 y3)).setCell (p := ⟨g, m * 7 + 4, none⟩) HGE.out (.int .i64 y4)).setCell (p := ⟨g, m * 7 + 5, none⟩) HGE.out (.int .i64 y5)).setCell (p := ⟨g, m * 7 + 6, none⟩) HGE.out (.int .i64 y6)⟩
      generalize R.getD (m * 7) 0 = z0 at c0
      generalize R.getD (m * 7 + 1) 0 = z1 at c1
      generalize R.getD (m * 7 + 2) 0 = z2 at c2
      generalize R.getD (m * 7 + 3) 0 = z3 at c3
      generalize R.getD (m * 7 + 4) 0 = z4 at c4
      generalize R.getD (m * 7 + 5) 0 = z5 at c5
      generalize R.getD (m * 7 + 6) 0 = z6 at c6
      clear HN3 HB3 HR HY
      go_wp2_with fail
      go_roundw
      case rel => exact ⟨m + 1, _, by omega, by go_num, HN4, HR4, HB4⟩
      case measure => simp [intOf]; omega
    · obtain rfl : m = 7 := by omega
      have hmI : ¬ ((7 : Nat) : Int) < 7 := by decide
      have c5 := sum_cell HN.out HR.out 0 5 (by omega) (by omega) (smL_some (o := 8) rfl (jnd8 a b)) (i := 5) rfl rfl
      have c12 := sum_cell HN.out HR.out 1 5 (by omega) (by omega) (smL_some (o := 9) rfl (jnd9 a b)) (i := 12) rfl rfl
      have c19 := sum_cell HN.out HR.out 2 5 (by omega) (by omega) (smL_some (o := 10) rfl (jnd10 a b)) (i := 19) rfl rfl
      have c40 := sum_cell HN.out HR.out 5 5 (by omega) (by omega) (smL_some (o := 13) rfl (jnd13 a b)) (i := 40) rfl rfl
      have c47 := sum_cell HN.out HR.out 6 5 (by omega) (by omega) (smL_some (o := 14) rfl (jnd14 a b)) (i := 47) rfl rfl
      rw [← i64_w64] at c5 c12 c19
      obtain ⟨t5, hlt5⟩ : ∃ t : Bool, decide (a < b) = t := ⟨_, rfl⟩
      obtain ⟨t6, hlt6⟩ : ∃ t : Bool, (a == b) = t := ⟨_, rfl⟩
      obtain ⟨y5, HY5⟩ : ∃ y, Bx ((if a < b then 1 else 0 : Int) = y) := ⟨_, ⟨rfl⟩⟩
      obtain ⟨y6, HY6⟩ : ∃ y, Bx ((if a = b then 1 else 0 : Int) = y) := ⟨_, ⟨rfl⟩⟩
      rw [HY5.out] at c40
      rw [HY6.out] at c47
      have hy5 : (y5 == 1) = t5 := by rw [← HY5.out, ← hlt5]; by_cases h : a < b <;> simp [h]
      have hy6 : (y6 == 1) = t6 := by rw [← HY6.out, ← hlt6]; by_cases h : a = b <;> simp [h]
      go_upto_region 11 with fail
      clear c5 c12 c19 c40 c47 hy5 hy6 hlt5 hlt6 HY5 HY6
      by_cases hb0 : b = 0
      · subst hb0
        have hs3 := smL_none (q := 3) (o := 11) rfl (jnd11z a)
        have hs4 := smL_none (q := 4) (o := 12) rfl (jnd12z a)
        have d0 := sum_cell HN.out HR.out 3 0 (by omega) (by omega) hs3 (i := 21) rfl rfl
        have d1 := sum_cell HN.out HR.out 3 1 (by omega) (by omega) hs3 (i := 22) rfl rfl
        have d2 := sum_cell HN.out HR.out 3 2 (by omega) (by omega) hs3 (i := 23) rfl rfl
        have d3 := sum_cell HN.out HR.out 3 3 (by omega) (by omega) hs3 (i := 24) rfl rfl
        have d4 := sum_cell HN.out HR.out 3 4 (by omega) (by omega) hs3 (i := 25) rfl rfl
        have d5 := sum_cell HN.out HR.out 3 5 (by omega) (by omega) hs3 (i := 26) rfl rfl
        have d6 := sum_cell HN.out HR.out 3 6 (by omega) (by omega) hs3 (i := 27) rfl rfl
        have e0 := sum_cell HN.out HR.out 4 0 (by omega) (by omega) hs4 (i := 28) rfl rfl
        have e1 := sum_cell HN.out HR.out 4 1 (by omega) (by omega) hs4 (i := 29) rfl rfl
        have e2 := sum_cell HN.out HR.out 4 2 (by omega) (by omega) hs4 (i := 30) rfl rfl
        have e3 := sum_cell HN.out HR.out 4 3 (by omega) (by omega) hs4 (i := 31) rfl rfl
        have e4 := sum_cell HN.out HR.out 4 4 (by omega) (by omega) hs4 (i := 32) rfl rfl
        have e5 := sum_cell HN.out HR.out 4 5 (by omega) (by omega) hs4 (i := 33) rfl rfl
        have e6 := sum_cell HN.out HR.out 4 6 (by omega) (by omega) hs4 (i := 34) rfl rfl
        have heq := step_eq 2 0 0 0 0 0 3
        clear hs3 hs4 HR HN
        go_wp2_with fail
        refine (lives16_any _).mono ?_
        rintro e wL ⟨rfl, hbL⟩
        have hfin := bstep HB.out hbL
        go_wp2_with fail
        go_ret
        exact ⟨rfl, hfin⟩
      · have hb1 : (b == 0) = false := by simpa using hb0
        obtain ⟨q, r, hq, hr, hq64, hr64, hsum, hsg, hrg, hr1⟩ := quo_facts HA.out HBV.out hb0
        have hs3 := smL_some (q := 3) (o := 11) rfl hq
        have hs4 := smL_some (q := 4) (o := 12) rfl hr
        have d0 := sum_cell HN.out HR.out 3 0 (by omega) (by omega) hs3 (i := 21) rfl rfl
        have d5 := sum_cell HN.out HR.out 3 5 (by omega) (by omega) hs3 (i := 26) rfl rfl
        have e5 := sum_cell HN.out HR.out 4 5 (by omega) (by omega) hs4 (i := 33) rfl rfl
        rw [← i64_w64, ← i64_w64] at hsum
        have HSUM := Bx.mk hsum
        have HSG := Bx.mk (And.intro hsg (And.intro hrg hr1))
        have HR64 := Bx.mk hr64
        clear hs3 hs4 HR HN hq hr hq64 hr64 hsum hsg hrg hr1 hb0
        go_upto_region 13 with fail
        go_quiet (fail)
        go_upto_region 14 with fail
        have d0q : (wr.drewN nq).cell? ⟨g, 21, none⟩ = some (.int .i64 1) := d0
        replace HB : Bx (Below w.heap.size w (wr.drewN nq)) := ⟨below_drewN HB.out nq⟩
        generalize wr.drewN nq = wq at d0q HB ⊢
        clear d0 d5 e5
        have hv1 := HR64.out.1
        have hv2 := HR64.out.2
        have hv3 := HSG.out.2.2
        by_cases hr0 : r = 0
        · subst hr0
          have hs : wrap64 (wrap64 (q * b)) = a := by have := HSUM.out; simpa using this
          by_cases hbp : 0 < b
          · clear hv1 hv2 hv3
            go_wp2_with fail
            refine (lives16_any _).mono ?_
            rintro e wL ⟨rfl, hbL⟩
            have hfin := bstep HB.out hbL
            go_wp2_with fail
            go_ret
            exact ⟨rfl, hfin⟩
          · have hbn : b < 0 := by have := HSG.out.2.1; omega
            clear hv1 hv2 hv3
            go_wp2_with fail
            refine (lives16_any _).mono ?_
            rintro e wL ⟨rfl, hbL⟩
            have hfin := bstep HB.out hbL
            go_wp2_with fail
            go_ret
            exact ⟨rfl, hfin⟩
        · have hr0b : (r == 0) = false := by simpa using hr0
          have hs := HSUM.out
          by_cases hrp : 0 ≤ r
          · have hrn : ¬ r < 0 := by omega
            have han : ¬ a < 0 := by have := HSG.out.1; omega
            by_cases hrb : r < b
            · clear hr0
              go_wp2_with fail
              refine (lives16_any _).mono ?_
              rintro e wL ⟨rfl, hbL⟩
              have hfin := bstep HB.out hbL
              go_wp2_with fail
              go_ret
              exact ⟨rfl, hfin⟩
            · have hrb2 : b < -r := by have := HSG.out.2.1; omega
              clear hr0
              go_wp2_with fail
              refine (lives16_any _).mono ?_
              rintro e wL ⟨rfl, hbL⟩
              have hfin := bstep HB.out hbL
              go_wp2_with fail
              go_ret
              exact ⟨rfl, hfin⟩
          · have hrn : r < 0 := by omega
            have han : a < 0 := by have := HSG.out.1; omega
            by_cases hrb : b < r
            · clear hr0
              go_wp2_with fail
              refine (lives16_any _).mono ?_
              rintro e wL ⟨rfl, hbL⟩
              have hfin := bstep HB.out hbL
              go_wp2_with fail
              go_ret
              exact ⟨rfl, hfin⟩
            · have hrb2 : -r < b := by have := HSG.out.2.1; omega
              clear hr0
              go_wp2_with fail
              refine (lives16_any _).mono ?_
              rintro e wL ⟨rfl, hbL⟩
              have hfin := bstep HB.out hbL
              go_wp2_with fail
              go_ret
              exact ⟨rfl, hfin⟩

set_option maxRecDepth 100000 in
theorem lifted (os : Os) (started : os.Started) (H : Type) (enc : TypeId × Value → H) :
    ReturnsInHanded {} Try.checked os 7 .any (Rows.vmSumsSpec.pre6 enc Try.prog Try.f7 Rows.vmSumsRow.domain false) (Rows.vmSumsSpec.post enc Try.prog Try.f7 false true false false) := by
  refine returnsInHanded_of_change (C := Try.checked) own started (by kernel_rfl) Try.func7
    (ChangeSpec.witness6 (enc := enc) (C := Try.checked) false ⟨#[], #[.int .i64 0, .int .i64 0], []⟩ 8 (by kernel_rfl) (by kernel_rfl) (by kernel_rfl) (by kernel_rfl)) ?_
  intro W base args ds gs before hval0 hW hcnd _
  have hval : ∀ (j : Nat) t v, Try.f7.params[j]? = some t → args[j]? = some v → Value.okWide Try.prog W .any base t v := hval0
  have hW' := hW
  obtain ⟨p, q, hA0, hV, rfl, hfz, hnd⟩ := hW
  have hA : DataW.TrodAll enc Try.prog W 0 (fun _ => true) true Try.f7.params.toList args.toList ds p := hA0
  rw [Try.params7] at hA hval
  obtain ⟨v0, vs0, d0, ds0, p0, q0, hargs, rfl, rfl, h0, r0⟩ := trodAll_cons hA
  obtain ⟨v1, vs1, d1, ds1, p1, q1, rfl, rfl, rfl, h1, r1⟩ := trodAll_cons r0
  obtain ⟨rfl, rfl, rfl⟩ := trodAll_nil r1
  obtain rfl : args = #[v0, v1] := by cases args; simp_all
  obtain ⟨rfl, rfl⟩ := trodVars_none hV
  have k0 := h0
  have lt0 : ∀ x ∈ p0, x.block < W.heap.size := by obtain ⟨m, hm⟩ := k0; exact DataW.trod_lt m _ _ _ hm
  have k1 := h1
  have lt1 : ∀ x ∈ p1, x.block < W.heap.size := by obtain ⟨m, hm⟩ := k1; exact DataW.trod_lt m _ _ _ hm
  obtain ⟨a, rfl, ha⟩ := open_long (hval 0 2 v0 rfl rfl) h0
  obtain ⟨b, rfl, hb⟩ := open_long (hval 1 2 v1 rfl rfl) h1
  clear hA0 hval0
  refine (walk a b W ha hb).mono fun e W' ⟨he, bel⟩ => ?_
  subst he
  exact ⟨_, rfl, _, _, _, [], _, [], hW', trodAll_mk1 (shut_bool Try.underlying4 _), (trodAll_cons_mk (Below.trod laidOut (by kernel_rfl) (of_decide_eq_true (by kernel_rfl)) k0 bel lt0) (trodAll_cons_mk (Below.trod laidOut (by kernel_rfl) (of_decide_eq_true (by kernel_rfl)) k1 bel lt1) trodAll_mk0)), rfl, bel.frame _, fun h => by cases h⟩

theorem over : Rows.vmSumsRow.holds Try.pinned (OpenSpec.ofChange Rows.vmSumsSpec) :=
  OpenClaim.holds_of_wide 7 Try.f7 rfl rfl rfl rfl rfl rfl rfl ⟨rfl, rfl, rfl, rfl, rfl⟩ rfl rfl rfl rfl rfl (by kernel_rfl) Try.func7 (by kernel_rfl)
    (of_decide_eq_true (by kernel_rfl)) (by unfold Func.isWrapper; first | (rw [if_pos (by decide +kernel)]; kernel_rfl) | (rw [if_neg (by decide +kernel)]; exact ⟨rfl, rfl⟩))
    (fun os started H enc _ => lifted os started H enc)

/-- the statement -/
theorem proved : Rows.VmSumsSaid := over
end Go.Proofs.Ytpbdgacdbhabhaa.vmSums
namespace Go.Proofs.Ytpbdgacdbhabhaa
theorem vmSums_holds : Rows.VmSumsSaid := vmSums.proved
#print axioms vmSums_holds
end Go.Proofs.Ytpbdgacdbhabhaa
