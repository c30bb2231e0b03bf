/- The program's queue: Put, Done. -/
import Derived.Test.YtedingegmiacmaaQSmall
import Derived.Test.YtedingegmiacmaaShelfDel
namespace Go.Proofs.Ytedingegmiacmaa
open Go.RowKit
set_option linter.unusedVariables false

/-- what Put and Done answer -/
def QqP (g most : Nat) (r : List Int × Int) (w : World) (e : Ending) (w' : World) : Prop := e = .returned (.int .i64 r.2) ∧ Qm w' g most r.1 ∧ Kept (fun k => k = g) w w'
set_option maxRecDepth 100000 in
theorem qq_stay {g most : Nat} {L : List Int} {x : Int} {r : List Int × Int} {w w' : World} (h : Qm w g most L) (hb : Below w.heap.size w w') (hr : r = (L, x)) : QqP g most r w (.returned (.int .i64 x)) w' := by
  subst hr; exact ⟨rfl, h.below hb, Kept.of_below hb⟩
set_option maxHeartbeats 1000000 in
theorem put19_nil (j : Int) (w : World) :
    Calls Try.prog 12 #[.pointer none, .int .i64 j] w fun e w' => e = .returned (.int .i64 1) ∧ w' = w := by
  go_enter Try.func12, Try.ntmps12
  go_wp2_with fail
  refine (made_nil w).mono ?_
  rintro e wz ⟨rfl, hw⟩
  obtain rfl : w = wz := hw.symm
  clear hw
  go_wp2_with fail
  go_ret
  exact ⟨rfl, rfl⟩
set_option maxHeartbeats 1000000 in
theorem put19_plain (j : Int) (w : World) (g : Nat) (h : Q0 w g) :
    Calls Try.prog 12 #[.pointer (some ⟨g, 0, none⟩), .int .i64 j] w fun e w' => e = .returned (.int .i64 1) ∧ w' = w := by
  go_enter Try.func12, Try.ntmps12
  go_wp2_with fail
  refine (made_plain h).mono ?_
  rintro e wz ⟨rfl, hw⟩
  obtain rfl : w = wz := hw.symm
  clear hw
  go_wp2_with fail
  go_ret
  exact ⟨rfl, rfl⟩
set_option maxHeartbeats 1000000 in
theorem done19_nil (j : Int) (w : World) :
    Calls Try.prog 14 #[.pointer none, .int .i64 j] w fun e w' => e = .returned (.int .i64 1) ∧ w' = w := by
  go_enter Try.func14, Try.ntmps14
  go_wp2_with fail
  refine (made_nil w).mono ?_
  rintro e wz ⟨rfl, hw⟩
  obtain rfl : w = wz := hw.symm
  clear hw
  go_wp2_with fail
  go_ret
  exact ⟨rfl, rfl⟩
set_option maxHeartbeats 1000000 in
theorem done19_plain (j : Int) (w : World) (g : Nat) (h : Q0 w g) :
    Calls Try.prog 14 #[.pointer (some ⟨g, 0, none⟩), .int .i64 j] w fun e w' => e = .returned (.int .i64 1) ∧ w' = w := by
  go_enter Try.func14, Try.ntmps14
  go_wp2_with fail
  refine (made_plain h).mono ?_
  rintro e wz ⟨rfl, hw⟩
  obtain rfl : w = wz := hw.symm
  clear hw
  go_wp2_with fail
  go_ret
  exact ⟨rfl, rfl⟩
set_option maxHeartbeats 4000000 in
set_option maxRecDepth 100000 in
theorem put19_any (g most : Nat) (L : List Int) (j : Int) (w : World) (h : Qm w g most L) (h1 : 1 ≤ most) (h8 : most ≤ 8) (hle : L.length ≤ most) :
    Calls Try.prog 12 #[.pointer (some ⟨g, 0, none⟩), .int .i64 j] w (QqP g most (qPut most L j) w) := by
  have HQ := Bx.mk h
  have HE : Bx (qPut most L j = if j < 0 then (L, 2) else if j ∈ L then (L, 10) else if L.length = most then (L, 11) else (L ++ [j], 0)) := ⟨rfl⟩
  obtain ⟨R, HR⟩ : ∃ R, Bx (qPut most L j = R) := ⟨_, ⟨rfl⟩⟩
  rw [HR.out] at HE ⊢
  clear h HR
  by_cases hj : j < 0
  · have HF : Bx (R = (L, 2)) := ⟨by rw [HE.out, if_pos hj]⟩
    go_enter Try.func12, Try.ntmps12
    go_wp2_with fail
    refine (made_yes HQ.out h1).mono ?_
    rintro e wz ⟨rfl, hw⟩
    obtain rfl : w = wz := hw.symm
    clear hw
    go_wp2_with fail
    go_ret
    exact qq_stay HQ.out (Below.refl _ _) HF.out
  · rw [if_neg hj] at HE
    have hjd : decide (j < 0) = false := decide_eq_false hj
    obtain ⟨t, HT⟩ : ∃ t, Bx (L.contains j = t) := ⟨_, ⟨rfl⟩⟩
    have HM : Bx (t = true ↔ j ∈ L) := ⟨by rw [← HT.out]; simp⟩
    go_enter Try.func12, Try.ntmps12
    go_wp2_with fail
    refine (made_yes HQ.out h1).mono ?_
    rintro e wz ⟨rfl, hw⟩
    obtain rfl : w = wz := hw.symm
    clear hw
    go_wp2_with fail
    refine (all_yes HQ.out h1).mono ?_
    rintro e w1 ⟨rfl, hb1⟩
    have HI1 := Bx.mk (HQ.out.ivs.below hb1)
    have HB1 := Bx.mk hb1
    clear hb1
    go_wp2_with fail
    refine (contains_any _ _ _ L j _ HI1.out).mono ?_
    rintro e w2 ⟨rfl, hb2⟩
    have HB2 := Bx.mk (bstep HB1.out hb2)
    rw [HT.out]
    clear hb2 HB1 HI1 HT
    cases t with
    | true =>
      have HF : Bx (R = (L, 10)) := ⟨by rw [HE.out, if_pos (HM.out.1 rfl)]⟩
      go_wp2_with fail
      go_ret
      exact qq_stay HQ.out HB2.out HF.out
    | false =>
      rw [if_neg (fun hm => by have := HM.out.2 hm; cases this)] at HE
      have HQ2 := Bx.mk (HQ.out.below HB2.out)
      have c0 := HQ2.out.c0
      have c9 := HQ2.out.c9
      by_cases hf : L.length = most
      · have HF : Bx (R = (L, 11)) := ⟨by rw [HE.out, if_pos hf]⟩
        have hq : (((L.length : Nat) : Int) == (most : Int)) = true := by simp; omega
        clear hf
        go_wp2_with fail
        go_quiet (fail)
        go_wp2_with fail
        go_ret
        exact qq_stay HQ.out (below_drewN HB2.out _) HF.out
      · rw [if_neg hf] at HE
        have hq : (((L.length : Nat) : Int) == (most : Int)) = false := beq_false_of_ne (by omega)
        have hn8 : L.length < 8 := by omega
        clear hf
        go_wp2_with fail
        go_quiet (fail)
        have HB3 := Bx.mk (below_drewN HB2.out nq)
        have HQ3 := Bx.mk (HQ.out.below HB3.out)
        generalize w2.drewN nq = w3 at HB3 HQ3 ⊢
        clear c0 c9 HQ2 HB2 HM
        have c9 := HQ3.out.c9
        obtain ⟨x, cx⟩ := HQ3.out.there (1 + L.length) (by omega)
        have fx := HQ3.out.froz (1 + L.length)
        have HQ4 : Bx (Qm ((w3.setCell ⟨g, 1 + L.length, none⟩ (.int .i64 j)).drew.setCell ⟨g, 9, none⟩ (.int .i64 (L.length + 1 : Nat))) g most (L ++ [j])) := ⟨(HQ3.out.below (Below.refl _ _).drew).put hn8 j⟩
        obtain ⟨d9, e9⟩ : (w3.setCell ⟨g, 1 + L.length, none⟩ (.int .i64 j)).drew.cell? ⟨g, 9, none⟩ = some (.int .i64 (L.length : Nat)) ∧ (w3.setCell ⟨g, 1 + L.length, none⟩ (.int .i64 j)).drew.frozen? ⟨g, 9, none⟩ = false := (HQ3.out.below (Below.refl _ _).drew).put9 hn8 j
        have HK : Bx (Kept (fun k => k = g) w ((w3.setCell ⟨g, 1 + L.length, none⟩ (.int .i64 j)).drew.setCell ⟨g, 9, none⟩ (.int .i64 (L.length + 1 : Nat)))) := ⟨kept_own (kept_own (Kept.of_below HB3.out.drew) _ _) _ _⟩
        have HF : Bx (R = (L ++ [j], 0)) := HE
        obtain ⟨n, HN⟩ : ∃ n, Bx (L.length = n) := ⟨_, ⟨rfl⟩⟩
        rw [HN.out] at c9 cx fx HQ4 d9 e9 HK hn8 ⊢
        have hn8i : (n : Int) < 8 := by omega
        go_wp2_with fail
        go_region
        generalize (w3.setCell ⟨g, 1 + n, none⟩ (.int .i64 j)).drew = w4 at HQ4 d9 e9 HK ⊢
        clear cx fx c9
        go_wp2_with fail
        go_ret
        exact ⟨by rw [HF.out]; rfl, by rw [HF.out]; exact HQ4.out, HK.out⟩
set_option maxRecDepth 100000 in
/-- where it stands first -/
theorem ixF_at {j : Int} : ∀ (L : List Int) (k : Nat), j ∈ L → ∃ p, ixF L j k = ((k + p : Nat) : Int) ∧ ∃ h : p < L.length, L[p] = j
  | [], _, h => by cases h
  | y :: t, k, h => by
    unfold ixF
    by_cases e : j = y
    · exact ⟨0, by rw [if_pos e]; rfl, Nat.succ_pos _, e.symm⟩
    · obtain ⟨p, h1, h2, h3⟩ := ixF_at t (k + 1) (by rcases List.mem_cons.1 h with h | h; exact absurd h e; exact h)
      exact ⟨p + 1, by rw [if_neg e, h1]; congr 1; omega, Nat.succ_lt_succ h2, h3⟩
set_option maxRecDepth 100000 in
theorem ixF_no {j : Int} : ∀ (L : List Int) (k : Nat), j ∉ L → ixF L j k = -1
  | [], _, _ => rfl
  | y :: t, k, h => by
    unfold ixF
    rw [if_neg (fun e => h (by rw [e]; exact List.mem_cons_self)), ixF_no t (k + 1) (fun e => h (List.mem_cons_of_mem _ e))]
set_option maxRecDepth 100000 in
/-- one is taken out -/
theorem delete19 {w : World} {g most : Nat} {L : List Int} (h : Qm w g most L) (p : Nat) (hp : p < L.length) (x : Int) (hx : x = ((p + 1 : Nat) : Int)) :
    Calls Try.prog 28 #[.slice (some ⟨g, 1, none⟩) L.length 8, .int .i64 p, .int .i64 x] w fun e w' => e = .returned (.slice (some ⟨g, 1, none⟩) (L.length - 1) 8) ∧ ∃ q, w' = Sort.putRow encI (Sort.ahead w q) g 1 (L.take p ++ L.drop (p + 1) ++ [0]).toArray := by
  subst hx
  have h0 := Any.slices_Delete_int_arr Try.laysNm223 g 1 8 p (p + 1) L.toArray w h.holds (by simpa using h.len) (by omega) (by omega) (by simp; omega)
  rw [show Try.laysNm223_ren.f 23 = 28 from rfl] at h0
  simpa using h0
set_option maxHeartbeats 4000000 in
set_option maxRecDepth 100000 in
theorem done19_any (g most : Nat) (L : List Int) (j : Int) (w : World) (h : Qm w g most L) (h1 : 1 ≤ most) (hnd : L.Nodup) :
    Calls Try.prog 14 #[.pointer (some ⟨g, 0, none⟩), .int .i64 j] w (QqP g most (qDone L j) w) := by
  have HQ := Bx.mk h
  have HL := Bx.mk h.len
  obtain ⟨R, HR⟩ : ∃ R, Bx (qDone L j = R) := ⟨_, ⟨rfl⟩⟩
  have HIX : Bx ((ixF L j 0 = -1 ∧ R = (L, 9)) ∨ ∃ p : Nat, ixF L j 0 = (p : Int) ∧ p < L.length ∧ R = (L.take p ++ L.drop (p + 1), 0)) := ⟨by
    rw [← HR.out]
    unfold qDone
    by_cases hm : j ∈ L
    · obtain ⟨p, e1, e2, e3⟩ := ixF_at L 0 hm
      refine .inr ⟨p, by rw [e1, Nat.zero_add], e2, ?_⟩
      rw [if_pos hm, ← wout_at hnd e2, e3]
    · exact .inl ⟨ixF_no L 0 hm, by rw [if_neg hm]⟩⟩
  rw [HR.out]
  clear h HR hnd
  go_enter Try.func14, Try.ntmps14
  go_wp2_with fail
  refine (made_yes HQ.out h1).mono ?_
  rintro e wz ⟨rfl, hw⟩
  obtain rfl : w = wz := hw.symm
  clear hw
  go_wp2_with fail
  refine (all_yes HQ.out h1).mono ?_
  rintro e w1 ⟨rfl, hb1⟩
  have HI1 := Bx.mk (HQ.out.ivs.below hb1)
  have HB1 := Bx.mk hb1
  clear hb1
  go_wp2_with fail
  refine (index_any _ _ _ L j _ HI1.out).mono ?_
  rintro e w2 ⟨rfl, hb2⟩
  have HB2 := Bx.mk (bstep HB1.out hb2)
  clear hb2 HB1 HI1
  rcases HIX.out with ⟨e0, hR⟩ | ⟨p, e0, hp, hR⟩
  · have HF := Bx.mk hR
    rw [e0]
    clear HIX hR e0
    go_wp2_with fail
    go_ret
    exact qq_stay HQ.out HB2.out HF.out
  · have HF := Bx.mk hR
    have HP := Bx.mk hp
    rw [e0]
    clear HIX hR e0
    have hpd : decide ((p : Int) < 0) = false := decide_eq_false (by omega)
    have hl8 := HL.out
    have HQ2 := Bx.mk (HQ.out.below HB2.out)
    go_wp2_with fail
    refine (all_yes HQ2.out h1).mono ?_
    rintro e w3 ⟨rfl, hb3⟩
    have HQ3 := Bx.mk (HQ2.out.below hb3)
    have HB3 := Bx.mk (bstep HB2.out hb3)
    clear hb3 HQ2 HB2
    go_wp2_with fail
    refine (delete19 HQ3.out p HP.out _ (by go_num)).mono ?_
    rintro e w4 ⟨rfl, q, hw4⟩
    have HQ5 := Bx.mk (HQ3.out.del p HP.out q _ rfl)
    obtain ⟨⟨x9, d9⟩, e9⟩ := HQ3.out.del9 q (L.take p ++ L.drop (p + 1) ++ [0]).toArray
    have HK5 : Bx (Kept (fun k => k = g) w (w4.setCell ⟨g, 9, none⟩ (.int .i64 (L.length - 1 : Nat)))) := ⟨by
      rw [hw4]
      exact kept_own ((Kept.of_below HB3.out).trans' (putRow_kept w3 g q _)) _ _⟩
    rw [← hw4] at HQ5 d9 e9
    obtain ⟨n, HN⟩ : ∃ n : Nat, Bx (L.length - 1 = n) := ⟨_, ⟨rfl⟩⟩
    rw [HN.out] at HQ5 HK5 ⊢
    clear hw4 hp
    go_wp2_with fail
    go_ret
    exact ⟨by rw [HF.out]; rfl, by rw [HF.out]; exact HQ5.out, HK5.out⟩
end Go.Proofs.Ytedingegmiacmaa
