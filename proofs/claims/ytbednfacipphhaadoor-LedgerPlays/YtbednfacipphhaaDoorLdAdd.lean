/- The program's ledger: Add. -/
import Derived.Test.YtbednfacipphhaaDoorLdNew
import Derived.Test.YtbednfacipphhaaDoorAubb
import Derived.Deep.CutRange
import Derived.BigQuiet
namespace Go.Proofs.YtbednfacipphhaaDoor
open Go.RowKit
set_option linter.unusedVariables false

/-- how Add ends -/
def AdP (own : Nat → Prop) (g : Nat) (K : List Int) (T : List (List Int)) (e : En) (w : World) (x : Ending) (w' : World) : Prop :=
  x = .returned (.int .i64 (addT T e).2) ∧ ∃ own', Lg w' own' g K (addT T e).1 ∧ Kept (fun b => b = g) w w' ∧ ∀ b, own' b → own b ∨ w.heap.size ≤ b
set_option maxRecDepth 100000 in
theorem adp_stay {own : Nat → Prop} {g : Nat} {K : List Int} {T : List (List Int)} {e : En} {w w' : World} {x : Int} (h : Lg w own g K T) (hb : Below w.heap.size w w') (hr : addT T e = (T, x)) : AdP own g K T e w (.returned (.int .i64 x)) w' := by
  refine ⟨by rw [hr], own, by rw [hr]; exact h.below hb, Kept.of_below hb, fun b hb => .inl hb⟩
set_option maxRecDepth 100000 in
theorem kept_at {a w : World} {g : Nat} (h : Kept (fun k => k = g) a w) (o : Nat) (v : Value) : Kept (fun k => k = g) a (w.setCell ⟨g, o, none⟩ v) := h.setCell (.inl rfl) o v
set_option maxHeartbeats 4000000 in
set_option maxRecDepth 100000 in
theorem add21_any (own : Nat → Prop) (g : Nat) (K : List Int) (T : List (List Int)) (e : En) (a : Option Addr) (len cap : Nat) (w : World) (h : Lg w own g K T) (hi : Ivs w a len cap e.o) (hd : EnD e) :
    Calls Tryd.prog 14 #[.pointer (some ⟨g, 0, none⟩), .agg (enA e a len cap)] w (AdP own g K T e w) := by
  have hb0 : Below w.heap.size w (w.alloc (.cells (enA e a len cap) 35)) := (Below.refl _ _).alloc (Nat.le_refl _) _
  have hr0 := EnB.new (a := a) (n := len) (c := cap) w hd
  obtain ⟨g0, HG⟩ : ∃ g0, Bx (g0 = w.heap.size) := ⟨_, ⟨rfl⟩⟩
  rw [← HG.out] at hr0
  have HH := Bx.mk h
  have HB0 := Bx.mk hb0
  have HIV := Bx.mk (hi.below hb0)
  have HR := Bx.mk hr0
  have HL := Bx.mk (h.below hb0)
  have HD := Bx.mk hd
  have HAD : Bx (addT T e = if chkN e ≠ 0 then (T, chkN e) else if 64 ≤ T.length then (T, 11) else if e.j ≠ (T.length : Int) then (T, 2) else (T ++ [enL e], 0)) := ⟨rfl⟩
  clear h hb0 hr0 hd hi
  go_enter Tryd.func14, Tryd.ntmps14
  go_upto_region 1 with fail
  rw [← HG.out]
  generalize w.alloc (.cells (enA e a len cap) 35) = wa at HB0 HIV HR HL ⊢
  go_wp2_with fail
  refine (made21_yes HL.out).mono ?_
  rintro e wz ⟨rfl, hwz⟩
  subst hwz
  go_wp2_with (refine wpList_load_en rfl (.tmp 3) rfl rfl HR.out ?_)
  refine (encode20_any e a len cap _ HIV.out HD.out).mono ?_
  rintro x w1 ⟨v1, rfl, ho1, hb1⟩
  have HB1 := Bx.mk (bstep HB0.out hb1)
  have HL1 := Bx.mk (HL.out.below hb1)
  have HR1 := Bx.mk (HR.out.below hb1)
  have HO1 := Bx.mk ho1
  have HS1 := Bx.mk HB0.out.size
  clear hb1 ho1 HB0 HL HR HIV
  rcases chkN_ways e with hok | hok
  · have HCN := Bx.mk (chkN_can hok)
    have HEN := Bx.mk (encN_ok hok)
    rw [hok]
    rw [HEN.out] at HO1
    rw [if_neg (fun hh => hh hok)] at HAD
    clear hok HEN
    have c66 := HL1.out.c66
    have hle := HL1.out.le
    by_cases hf : T.length = 64
    · have HF : Bx (addT T e = (T, 11)) := ⟨by rw [HAD.out, if_pos (by omega)]⟩
      have hq : (((T.length : Nat) : Int) == (64 : Int)) = true := by simp; omega
      clear hf
      go_wp2_with fail
      go_ret
      exact adp_stay HH.out HB1.out HF.out
    · rw [if_neg (by omega)] at HAD
      have hq : (((T.length : Nat) : Int) == (64 : Int)) = false := beq_false_of_ne (by omega)
      have hn64 : T.length < 64 := by omega
      have c0 := HR1.out.c0
      by_cases hj : e.j = (T.length : Int)
      · rw [if_neg (fun hh => hh hj)] at HAD
        have hqj : (e.j != (T.length : Int)) = false := by simp [hj]
        clear hf
        generalize e.j = jj at c0 hqj hj
        clear hj
        go_wp2_with fail
        go_quiet (fail)
        have HB2 := Bx.mk (below_drewN HB1.out nq)
        have HL2 : Bx (Lg (w1.drewN nq) own g K T) := ⟨HL1.out.below (below_drewN (Below.refl _ _) nq)⟩
        have HO2 := Bx.mk (owns_drewN HO1.out nq)
        generalize w1.drewN nq = w2 at HB2 HL2 HO2 ⊢
        clear c0 c66 HB1 HL1 HO1 HR1
        obtain ⟨ta, tc, rfl, ht⟩ := Bts.of_owns HO2.out (enL_byt HCN.out HD.out.1 HD.out.2)
        have htl := enL_len HCN.out HD.out.1 HD.out.2
        have c66 := HL2.out.c66
        obtain ⟨sa, sn, sc, csx⟩ := HL2.out.slot T.length hn64
        have fsx := HL2.out.fr (2 + T.length)
        have HO3 : Bx (∀ p, ta = some p → w.heap.size ≤ p.block ∧ p.block < w2.heap.size) := ⟨fun p e => by
          have h1 := HO2.out.lt p.block (by rw [e]; rfl)
          exact ⟨Nat.le_trans HS1.out h1.1, h1.2⟩⟩
        have HPUT : Bx (Lg ((w2.setCell ⟨g, 2 + T.length, none⟩ (.slice ta (enL e).length tc)).drew.setCell ⟨g, 66, none⟩ (.int .i64 ((T.length : Int) + 1))) (fun b => own b ∨ (w.heap.size ≤ b ∧ b < w2.heap.size)) g K (T ++ [enL e])) := ⟨by
          have hbd : Below w2.heap.size w2 w2.drew := (Below.refl _ _).drew
          exact HL2.out.put hn64 htl hbd (ht.below hbd) (fun b hb => .inl hb) (fun b hb => by rcases hb with hb | hb; exact (HL2.out.below hbd).lt b hb; exact hb.2) (fun _ p e => .inr (HO3.out p e)) rfl⟩
        have HK : Bx (Kept (fun b => b = g) w ((w2.setCell ⟨g, 2 + T.length, none⟩ (.slice ta (enL e).length tc)).drew.setCell ⟨g, 66, none⟩ (.int .i64 ((T.length : Int) + 1)))) := ⟨kept_at (kept_at (Kept.of_below HB2.out.drew) _ _) _ _⟩
        obtain ⟨d66, e66⟩ := HL2.out.put66 hn64 (.slice ta (enL e).length tc)
        obtain ⟨n, HN⟩ : ∃ n, Bx (T.length = n) := ⟨_, ⟨rfl⟩⟩
        have HF : Bx (addT T e = (T ++ [enL e], 0)) := HAD
        generalize (enL e).length = tn at HPUT HK d66 e66 ht ⊢
        rw [HN.out] at c66 csx fsx HPUT HK d66 e66 hn64 ⊢
        have hn64i : (n : Int) < 64 := by omega
        clear ht htl HO3 HO2 HL2
        go_wp2_with fail
        go_region
        generalize (w2.setCell ⟨g, 2 + n, none⟩ (.slice ta tn tc)).drew = w4 at HPUT HK d66 e66 ⊢
        clear csx fsx c66
        go_wp2_with fail
        go_ret
        exact ⟨by rw [HF.out]; rfl, _, by rw [HF.out]; exact HPUT.out, HK.out, fun b hb => by rcases hb with hb | hb; exact .inl hb; exact .inr hb.1⟩
      · rw [if_pos hj] at HAD
        have HF : Bx (addT T e = (T, 2)) := HAD
        have hqj : (e.j != (T.length : Int)) = true := by simp [hj]
        clear hf
        generalize e.j = jj at c0 hqj hj
        clear hj
        go_wp2_with fail
        go_quiet (fail)
        go_wp2_with fail
        go_ret
        exact adp_stay HH.out (below_drewN HB1.out _) HF.out
  · rw [hok]
    have HF : Bx (addT T e = (T, 2)) := ⟨by rw [HAD.out, if_pos (by rw [hok]; decide), hok]⟩
    clear hok
    go_wp2_with fail
    go_ret
    exact adp_stay HH.out HB1.out HF.out
end Go.Proofs.YtbednfacipphhaaDoor
