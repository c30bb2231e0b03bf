/- Which answer bytes begin with, as the program reads it. -/
import Derived.Test.YtdameoejigpnhabGreatDoorASt
namespace Go.Proofs.YtdameoejigpnhabGreatDoor
open Go.RowKit
set_option linter.unusedVariables false

set_option maxRecDepth 100000 in
theorem results_tmp4 {fn : Func} {t u v x : Tmp} (h : fn.results = #[.tmp t, .tmp u, .tmp v, .tmp x]) (tmps : Array Value) (P : Program) (w : World) :
    (results fn tmps).run P w = .ok (.tuple #[tmps.getD t undef, tmps.getD u undef, tmps.getD v undef, tmps.getD x undef]) w := by
  simp [results, h]
/-- what is answered: a status, a body, how many bytes, an error -/
def RaP (T : Int × List Int × Nat × Int) (w : World) (e : Ending) (w' : World) : Prop := Below w.heap.size w w' ∧ ∃ (a' : Option Addr) (c' : Nat), e = .returned (.tuple #[.int .i64 T.1, .slice a' T.2.1.length c', .int .i64 (T.2.2.1 : Int), .int .i64 T.2.2.2]) ∧ Bts w' a' T.2.1.length c' T.2.1
set_option maxRecDepth 100000 in
theorem bts_nil (w : World) : Bts w none 0 0 [] := ⟨rfl, Byt.nil, Nat.le_refl _, Nat.zero_le _, fun _ => rfl, fun h => absurd h (Nat.lt_irrefl _)⟩
set_option maxRecDepth 100000 in
theorem RaP.none {T : Int × List Int × Nat × Int} {x : Int} {w w' : World} {e : Ending} (hT : T = (0, [], 0, x)) (hb : Below w.heap.size w w') (he : e = .returned (.tuple #[.int .i64 0, .slice none 0 0, .int .i64 0, .int .i64 x])) : RaP T w e w' := by
  subst hT
  exact ⟨hb, Option.none, 0, he, bts_nil w'⟩
set_option maxRecDepth 100000 in
theorem ctE_short3 {b s : List Int} (hm : mtB b s) (h : ctE b s ≠ 0) : ctE b s = 3 ∧ b.length < s.length := by
  by_cases hl : b.length < s.length
  · exact ⟨ctE_short hm hl, hl⟩
  · exact absurd (ctE_ok hm hl) h
set_option maxRecDepth 100000 in
theorem rs_err {b : List Int} {c : Int} (hl : ¬ b.length < (ledL c).length) (he : (lnC (b.drop (ledL c).length)).2.2 ≠ 0) : rsC b c = (0, [], 0, (lnC (b.drop (ledL c).length)).2.2) := by
  unfold rsC; rw [if_neg hl, if_pos he]
set_option maxRecDepth 100000 in
theorem rs_low {b : List Int} {c : Int} (hl : ¬ b.length < (ledL c).length) (he : (lnC (b.drop (ledL c).length)).2.2 = 0) (h : (b.drop ((ledL c).length + (lnC (b.drop (ledL c).length)).2.1)).length < (lnC (b.drop (ledL c).length)).1) : rsC b c = (0, [], 0, 3) := by
  unfold rsC; rw [if_neg hl, if_neg (fun k => k he), if_pos h]
set_option maxRecDepth 100000 in
theorem rs_all {b : List Int} {c : Int} (hl : ¬ b.length < (ledL c).length) (he : (lnC (b.drop (ledL c).length)).2.2 = 0) (h : ¬ (b.drop ((ledL c).length + (lnC (b.drop (ledL c).length)).2.1)).length < (lnC (b.drop (ledL c).length)).1) : rsC b c = (c, (b.drop ((ledL c).length + (lnC (b.drop (ledL c).length)).2.1)).take (lnC (b.drop (ledL c).length)).1, (ledL c).length + (lnC (b.drop (ledL c).length)).2.1 + (lnC (b.drop (ledL c).length)).1, 0) := by
  unfold rsC; rw [if_neg hl, if_neg (fun k => k he), if_neg h]
set_option maxRecDepth 100000 in
theorem ctE_zero {b s : List Int} (h : ctE b s = 0) : ¬ b.length < s.length := by have := ctE_len h; omega
set_option maxRecDepth 100000 in
set_option maxHeartbeats 2000000 in
theorem wreadans_any (a : Option Addr) (n cp : Nat) (l : List Int) (w : World) (h : Bts w a n cp l) (hn : n ≤ 1000000) (hs : Stt w) (he : Env w.heap.size w) :
    Calls Tryz.prog 15 #[.slice a n cp] w (RaP (raR l) w) := by
  have hl := h.len_eq
  have HBT := Bx.mk h
  have HE := Bx.mk he
  have C1 : Hid (Calls Tryz.prog 25 #[.slice a n cp] w (StP a n cp l w)) := wrstat_any a n cp l w h hn hs he
  clear h hs he
  go_enter Tryz.func15, Tryz.ntmps15
  go_wp2_with fail
  refine C1.out.mono ?_
  rintro e w1 ⟨hb1, hor⟩
  have HB1 := Bx.mk hb1
  clear hb1 C1
  rcases hor with ⟨c, hc, hm, V, rfl, hv0, hv1⟩ | ⟨hno, rfl⟩
  · have HRA : Bx (raR l = rsC l c) := ⟨ra_fit hc hm⟩
    by_cases hz : ctE l (ledL c) = 0
    · obtain rfl := hv0 hz
      have HLE := Bx.mk (ctE_zero hz)
      have hled : (ledL c).length ≤ n := by have := HLE.out; omega
      have HB2 := Bx.mk ((HBT.out.below HB1.out).rest (ledL c).length hled)
      have HLL : Bx ((l.drop (ledL c).length).length = n - (ledL c).length) := ⟨by rw [List.length_drop, hl]⟩
      have hlx : n - (ledL c).length ≤ 1000000 := by omega
      have HLNA := Bx.mk (wrlen_any _ _ _ _ w1 HB2.out hlx ((HE.out.below HB1.out).low HB1.out.size))
      rw [hz]
      have HRE := Bx.mk (fun h => rs_err (b := l) (c := c) HLE.out h)
      have HRL := Bx.mk (fun h1 h2 => rs_low (b := l) (c := c) HLE.out h1 h2)
      have HRB := Bx.mk (fun h1 h2 => rs_all (b := l) (c := c) HLE.out h1 h2)
      have HDR : Bx (∀ k, l.drop ((ledL c).length + k) = (l.drop (ledL c).length).drop k) := ⟨fun k => by rw [List.drop_drop]⟩
      clear hz hv0 hv1 hm HLE HB2
      generalize slA a (ledL c).length cp = A1 at *
      generalize l.drop (ledL c).length = M at *
      generalize cp - (ledL c).length = C1 at *
      generalize hLN : (ledL c).length = LN at *
      clear hLN
      obtain ⟨N1, hN1⟩ : ∃ N1, N1 = n - LN := ⟨_, rfl⟩
      have HN1 := Bx.mk hN1
      rw [← hN1] at HLNA HLL hlx ⊢
      clear hN1
      go_wp2_with fail
      refine HLNA.out.mono ?_
      rintro e w2 ⟨hb2, N, a2, n2, c2, rfl, hok⟩
      have HB2 := Bx.mk (bstep HB1.out hb2)
      have HOK := Bx.mk hok
      clear hb2 hok HLNA
      by_cases hz2 : (lnC M).2.2 = 0
      · obtain ⟨rfl, h8, hle, rfl, hbt2⟩ := HOK.out hz2
        have HBT2 := Bx.mk hbt2
        have HZ2 := Bx.mk hz2
        have hll2 : (M.drop (lnC M).2.1).length = N1 - (lnC M).2.1 := by rw [List.length_drop, HLL.out]
        rw [hz2]
        by_cases hsh : N1 - (lnC M).2.1 < (lnC M).1
        · have g2 : ((N1 - (lnC M).2.1 : Nat) : Int) < ((lnC M).1 : Int) := by omega
          have HF : Bx (raR l = (0, [], 0, 3)) := ⟨by rw [HRA.out]; exact HRL.out HZ2.out (by rw [HDR.out, hll2]; exact hsh)⟩
          clear hz2 hbt2 HOK hll2 hsh
          generalize N1 - (lnC M).2.1 = n2 at *
          generalize (lnC M).1 = NN at *
          go_wp2
          (try simp only [Exit.inBlock, Exit.then])
          refine bodyPost_ret (results_tmp4 rfl _ _ _) rfl ?_
          exact RaP.none HF.out HB2.out rfl
        · have g2 : ¬ ((N1 - (lnC M).2.1 : Nat) : Int) < ((lnC M).1 : Int) := by omega
          have HF : Bx (raR l = (c, (M.drop (lnC M).2.1).take (lnC M).1, LN + (lnC M).2.1 + (lnC M).1, 0)) := ⟨by rw [HRA.out, HRB.out HZ2.out (by rw [HDR.out, hll2]; exact hsh), HDR.out]⟩
          have hP0 := hbt2.piece 0 (lnC M).1 (Nat.zero_le _) (by omega)
          rw [Nat.sub_zero, Nat.sub_zero, List.drop_zero] at hP0
          have hsl := fun W => run_sl_h a2 (N1 - (lnC M).2.1) c2 (lnC M).1 ((lnC M).1 : Int) rfl (by have := hbt2.le_cap; omega) W
          have HPL : Bx (((M.drop (lnC M).2.1).take (lnC M).1).length = (lnC M).1) := ⟨by rw [List.length_take, hll2]; omega⟩
          have HSUM : Bx ((n : Int) - ((N1 - (lnC M).2.1 : Nat) : Int) + ((lnC M).1 : Int) = ((LN + (lnC M).2.1 + (lnC M).1 : Nat) : Int)) := ⟨by have := HN1.out; omega⟩
          have HBY : Bx (Byt ((M.drop (lnC M).2.1).take (lnC M).1)) := ⟨hP0.byt⟩
          have HCL := Bx.mk (clone_any _ _ _ _ w2 hP0 (by omega))
          clear hz2 hbt2 HOK hll2 hsh hP0 HLL HBT2
          generalize slA a2 0 c2 = A2 at *
          generalize (M.drop (lnC M).2.1).take (lnC M).1 = BD at *
          generalize LN + (lnC M).2.1 + (lnC M).1 = TOT at *
          generalize hn2 : N1 - (lnC M).2.1 = n2 at *
          have hn2n : n2 ≤ n := by have := HN1.out; omega
          clear hn2 hle
          generalize (lnC M).1 = NN at *
          go_wp2_with fail
          refine HCL.out.mono ?_
          rintro e w3 ⟨v, rfl, hown, hb3⟩
          have HB3 := Bx.mk (bstep HB2.out hb3)
          obtain ⟨av, cv, hv, hmine⟩ := Bts.of_owns (by rw [← HPL.out] at hown; exact hown) HBY.out
          subst hv
          have HMI := Bx.mk hmine
          clear hown hb3 hmine
          generalize hBL : BD.length = BL at *
          have HBL := Bx.mk hBL
          clear hBL
          go_wp2
          (try simp only [Exit.inBlock, Exit.then])
          refine bodyPost_ret (results_tmp4 rfl _ _ _) rfl ?_
          exact ⟨HB3.out, av, cv, by rw [HF.out]; show _ = Ending.returned (.tuple #[.int .i64 c, .slice av BD.length cv, .int .i64 (TOT : Int), .int .i64 0]); rw [← HSUM.out, HBL.out]; rfl, by rw [HF.out]; show Bts _ _ BD.length _ _; rw [HBL.out]; exact HMI.out⟩
      · have HF : Bx (raR l = (0, [], 0, (lnC M).2.2)) := ⟨by rw [HRA.out]; exact HRE.out hz2⟩
        have gz : ((lnC M).2.2 != 0) = true := by simpa using hz2
        generalize (lnC M).2.2 = EE at *
        clear hz2 HOK
        go_wp2
        (try simp only [Exit.inBlock, Exit.then])
        refine bodyPost_ret (results_tmp4 rfl _ _ _) rfl ?_
        exact RaP.none HF.out HB2.out rfl
    · obtain ⟨h3, hlt⟩ := ctE_short3 hm hz
      have HF : Bx (raR l = (0, [], 0, 3)) := ⟨by rw [HRA.out]; unfold rsC; rw [if_pos hlt]⟩
      obtain rfl := hv1 hz
      rw [h3]
      clear hz hv0 hv1 h3 hlt
      go_wp2
      (try simp only [Exit.inBlock, Exit.then])
      refine bodyPost_ret (results_tmp4 rfl _ _ _) rfl ?_
      exact RaP.none HF.out HB1.out rfl
  · have HF : Bx (raR l = (0, [], 0, 4)) := ⟨ra_none hno⟩
    clear hno
    go_wp2
    (try simp only [Exit.inBlock, Exit.then])
    refine bodyPost_ret (results_tmp4 rfl _ _ _) rfl ?_
    exact RaP.none HF.out HB1.out rfl
end Go.Proofs.YtdameoejigpnhabGreatDoor
