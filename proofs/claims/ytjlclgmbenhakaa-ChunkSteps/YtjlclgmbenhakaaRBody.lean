/- The document's own reader: its Body. -/
import Derived.Test.YtjlclgmbenhakaaRBMem
namespace Go.Proofs.Ytjlclgmbenhakaa
open Go.RowKit
set_option linter.unusedVariables false

set_option maxRecDepth 100000 in
theorem own_sl {w : World} {base n : Nat} {v : Value} {l : List Int} (h : w.ownsRow base 5 1 v n (bv l)) : ∃ a c, v = .slice a n c := by
  rcases h.2 with ⟨rfl, h0⟩ | ⟨g, cap, cur, rfl, _⟩
  · exact ⟨none, 0, by rw [h0]⟩
  · exact ⟨_, cap, rfl⟩
set_option maxRecDepth 100000 in
set_option maxHeartbeats 2000000 in
theorem xbody_any (g : Nat) (own : Nat → Prop) (m N : Nat) (s : CS) (w : World) (h : Xd w g own m s N) (hN : N ≤ 1000000) :
    Calls Try.prog 16 #[.pointer (some ⟨g, 0, none⟩)] w fun e w' => ∃ v, e = .returned v ∧ w'.ownsRow w.heap.size 5 1 v s.body.length (bv s.body) ∧ Below w.heap.size w w' := by
  obtain ⟨hm, B, ended, v, hR, hI, hBN⟩ := h
  have HT : Bx (bdR (m : Int) B (B.length + 1) 0 [] = s.body) := ⟨hI.bd⟩
  generalize s.body = T at HT
  obtain ⟨NB, hNB⟩ : ∃ n, n = B.length := ⟨_, rfl⟩
  have hvr := hR.vr
  rw [← hNB] at hvr hBN
  obtain ⟨av, cv, rfl, hb⟩ := Bts.of_owns hvr hR.byt
  have hcv := hb.le_cap
  have hcm := hb.cap_le
  unfold maxLen at hcm
  have HB := Bx.mk hb
  have HNB := Bx.mk hNB
  have HR := Bx.mk hR
  have HGL := Bx.mk (hR.lt g hR.og)
  clear hR hI hvr hb hNB
  go_enter Try.func16, Try.ntmps16
  go_wp2
  go_loopw [3, 4] (fun u i wr => ∃ (p f : Nat) (body : List Int), p ≤ NB + 3000 ∧ i = .int .i64 p ∧ Bx (BL w wr m B body u p f T)) (fun _ i _ => NB + 3001 - (intOf i).toNat)
  case atStart => exact ⟨0, B.length + 1, [], Nat.zero_le _, rfl, ⟨World.ownsRow_nil _ _ _ _, by simp, Below.refl _ _, by omega, HT.out⟩⟩
  case round =>
    clear HT
    obtain ⟨p, f, body, hp, rfl, HS⟩ := hrel
    obtain ⟨bn, HBN⟩ : ∃ n, Bx (body.length = n) := ⟨_, ⟨rfl⟩⟩
    have HOW0 := Bx.mk HS.out.own
    rw [HBN.out] at HOW0
    obtain ⟨bv3, bc, hv⟩ := own_sl HOW0.out
    subst hv
    have hbp : bn ≤ p := by rw [← HBN.out]; exact HS.out.len
    have c0 : wr.cell? ⟨g, 0, none⟩ = some (.int .i64 (m : Int)) := (HS.out.bel.cell (p := ⟨g, 0, none⟩) HGL.out).trans HR.out.c0
    have c1 : wr.cell? ⟨g, 1, none⟩ = some (.slice av NB cv) := (HS.out.bel.cell (p := ⟨g, 1, none⟩) HGL.out).trans HR.out.c1
    by_cases hlt : p < NB
    · have hpI : decide ((p : Int) < (NB : Int)) = true := by simp; omega
      obtain ⟨f, rfl⟩ : ∃ f', f = f' + 1 := ⟨f - 1, by have h1 := HS.out.fl; have h2 := HNB.out; omega⟩
      have HRUN : Bx (bdR (m : Int) B (f + 1) p body = T) := ⟨HS.out.run⟩
      unfold bdR at HRUN
      rw [if_neg (by rw [← HNB.out]; omega)] at HRUN
      have hsl := run_sl_l av NB cv p (p : Int) rfl (by omega)
      have HPB := Bx.mk ((HB.out.below HS.out.bel).rest p (by omega))
      generalize slA av p cv = a2 at hsl HPB
      obtain ⟨Z, hZ⟩ : ∃ Z, szR (m : Int) (B.drop p) 0 0 = Z := ⟨_, rfl⟩
      have HZO : Bx (Z.2.2 = 0 → Z.2.1 ≤ NB - p ∧ 2 ≤ Z.2.1 ∧ (Z.1 : Int) ≤ (m : Int)) := ⟨fun h0 => by
        rw [← hZ] at h0 ⊢
        obtain ⟨i1, i2, i3⟩ := szR_ok _ _ _ _ h0
        rw [List.length_drop, ← HNB.out] at i1
        exact ⟨by omega, by omega, i3 (by simp)⟩⟩
      have HSZ : Bx (∀ W : World, Bts W a2 (NB - p) (cv - p) (B.drop p) → Calls Try.prog 17 #[.slice a2 (NB - p) (cv - p), .int .i64 (m : Int)] W fun e w' => e = .returned (.tuple #[.int .i64 (Z.1 : Int), .int .i64 (Z.2.1 : Int), .int .i64 Z.2.2]) ∧ w' = W) := ⟨fun W hW => by
        rw [← hZ]; exact (sized_any a2 (NB - p) (cv - p) (B.drop p) (m : Int) W hW (by omega) (by omega) (by omega)).mono fun _ _ h => ⟨h.1, h.2.symm⟩⟩
      rw [hZ] at HRUN
      obtain ⟨n, k, E⟩ := Z
      simp only at HZO HSZ
      have HRUN2 : Bx ((if E ≠ 0 ∨ n = 0 then body else bdR (m : Int) B f (p + k + n + 2) (body ++ (B.drop (p + k)).take n)) = T) := HRUN
      clear HRUN hZ
      go_wp2
      go_quiet ((go_at_call 17; exact Calls.quiet_of_same (HSZ.out _ (HPB.out.drewN _))))
      have HBD : Bx (Below w.heap.size w (wr.drewN nq)) := ⟨below_drewN HS.out.bel nq⟩
      have HOD : Bx ((wr.drewN nq).ownsRow w.heap.size 5 1 (.slice bv3 bn bc) bn (bv body)) := ⟨HOW0.out⟩
      have HFL : Bx (B.length < f + 1 + p) := ⟨HS.out.fl⟩
      have d1 : (wr.drewN nq).cell? ⟨g, 1, none⟩ = some (.slice av NB cv) := c1
      generalize wr.drewN nq = wd at HBD HOD d1 ⊢
      have HSD : Bx (w.heap.size ≤ wd.heap.size) := ⟨HBD.out.size⟩
      clear hsl HSZ HPB HS HOW0 c0 c1
      by_cases hE : E ≠ 0
      · have HTT : Bx (body = T) := ⟨by rw [← HRUN2.out, if_pos (.inl hE)]⟩
        have k1 : (E != 0) = true := by simpa using hE
        clear hE HRUN2 HZO
        go_wp2
        go_ret
        exact ⟨_, rfl, by rw [← HTT.out, HBN.out]; exact HOD.out, HBD.out⟩
      · have hE0 : E = 0 := by simpa using hE
        have k1 : (E != 0) = false := by simpa using hE0
        by_cases hn : n = 0
        · have HTT : Bx (body = T) := ⟨by rw [← HRUN2.out, if_pos (.inr hn)]⟩
          have k2 : ((n : Int) == 0) = true := by simpa using hn
          clear hE hE0 hn HRUN2 HZO
          go_wp2
          go_ret
          exact ⟨_, rfl, by rw [← HTT.out, HBN.out]; exact HOD.out, HBD.out⟩
        · have HRN : Bx (bdR (m : Int) B f (p + k + n + 2) (body ++ (B.drop (p + k)).take n) = T) := ⟨by rw [← HRUN2.out, if_neg (by rintro (h | h); exact h hE0; exact hn h)]⟩
          have k2 : ((n : Int) == 0) = false := by simpa using hn
          obtain ⟨z1, z2, z3⟩ := HZO.out hE0
          have hn1 : 1 ≤ n := by omega
          clear hE hE0 hn HRUN2 HZO
          by_cases hend : NB < p + k + n
          · have k3 : decide ((p : Int) + k + n > (NB : Int)) = true := by simp; omega
            skip
            have hsl := run_sl_lh av NB cv (p + k) NB ((p : Int) + k) ((NB : Int)) (by omega) (by omega) (by omega) (by omega)
            have HPC : Bx (Bts wd (slA av (p + k) cv) (NB - (p + k)) (cv - (p + k)) ((B.drop (p + k)).take n)) := ⟨by
              have h1 := HB.out.piece (p + k) NB (by omega) (by omega)
              have h2 : (B.drop (p + k)).take n = (B.drop (p + k)).take (NB - (p + k)) := by rw [List.take_of_length_le (by rw [List.length_drop, ← HNB.out]; omega), List.take_of_length_le (by rw [List.length_drop, ← HNB.out]; omega)]
              rw [h2]; exact h1.below HBD.out⟩
            generalize slA av (p + k) cv = a3 at hsl HPC
            obtain ⟨q, hq⟩ : ∃ q, q = NB - (p + k) := ⟨_, rfl⟩
            rw [← hq] at hsl HPC
            have hqn : q ≤ n := by omega
            have HQL : Bx (((B.drop (p + k)).take n).length = q) := ⟨HPC.out.len_eq⟩
            have HOW : Bx (wd.ownsRow w.heap.size 5 1 (.slice bv3 bn bc) bn (bv body)) := ⟨HOD.out⟩
            clear hq
            go_wp2_with (at_builtin; refine wpList_append_bts rfl (.tmp 56) (.tmp 63) rfl w.heap.size bn _ body rfl HOW.out a3 q _ _ rfl HPC.out (by omega) HSD.out ?_; intro v5 w5 ho5 hb5 _; obtain ⟨a5, c5, hv5⟩ := own_sl ho5; subst hv5; have HO5 := Bx.mk ho5; have HB5 := Bx.mk (HBD.out.trans hb5); clear ho5 hb5)
            go_roundw
            case rel =>
              refine ⟨p + k + n + 2, f, body ++ (B.drop (p + k)).take n, by omega, by go_num, ⟨?_, ?_, HB5.out, by have := HFL.out; omega, HRN.out⟩⟩
              · rw [List.length_append, HBN.out, HQL.out]; exact HO5.out
              · rw [List.length_append, HBN.out, HQL.out]; omega
            case measure => simp [intOf]; omega
          · have k3 : decide ((p : Int) + k + n > (NB : Int)) = false := by simp; omega
            skip
            have hsl := run_sl_lh av NB cv (p + k) (p + k + n) ((p : Int) + k) ((p : Int) + k + n) (by omega) (by omega) (by omega) (by omega)
            have HPC : Bx (Bts wd (slA av (p + k) cv) ((p + k + n) - (p + k)) (cv - (p + k)) ((B.drop (p + k)).take n)) := ⟨by
              have h1 := HB.out.piece (p + k) (p + k + n) (by omega) (by omega)
              have h2 : (B.drop (p + k)).take n = (B.drop (p + k)).take ((p + k + n) - (p + k)) := by rw [show p + k + n - (p + k) = n from by omega]
              rw [h2]; exact h1.below HBD.out⟩
            generalize slA av (p + k) cv = a3 at hsl HPC
            obtain ⟨q, hq⟩ : ∃ q, q = (p + k + n) - (p + k) := ⟨_, rfl⟩
            rw [← hq] at hsl HPC
            have hqn : q ≤ n := by omega
            have HQL : Bx (((B.drop (p + k)).take n).length = q) := ⟨HPC.out.len_eq⟩
            have HOW : Bx (wd.ownsRow w.heap.size 5 1 (.slice bv3 bn bc) bn (bv body)) := ⟨HOD.out⟩
            clear hq
            go_wp2_with (at_builtin; refine wpList_append_bts rfl (.tmp 56) (.tmp 63) rfl w.heap.size bn _ body rfl HOW.out a3 q _ _ rfl HPC.out (by omega) HSD.out ?_; intro v5 w5 ho5 hb5 _; obtain ⟨a5, c5, hv5⟩ := own_sl ho5; subst hv5; have HO5 := Bx.mk ho5; have HB5 := Bx.mk (HBD.out.trans hb5); clear ho5 hb5)
            go_roundw
            case rel =>
              refine ⟨p + k + n + 2, f, body ++ (B.drop (p + k)).take n, by omega, by go_num, ⟨?_, ?_, HB5.out, by have := HFL.out; omega, HRN.out⟩⟩
              · rw [List.length_append, HBN.out, HQL.out]; exact HO5.out
              · rw [List.length_append, HBN.out, HQL.out]; omega
            case measure => simp [intOf]; omega
    · have hpI : decide ((p : Int) < (NB : Int)) = false := by simp; omega
      have HTT : Bx (body = T) := ⟨by rw [← HS.out.run, bdR_over _ _ _ _ _ (by rw [← HNB.out]; omega)]⟩
      go_wp2
      go_ret
      exact ⟨_, rfl, by rw [← HTT.out, HBN.out]; exact HOW0.out, HS.out.bel⟩
end Go.Proofs.Ytjlclgmbenhakaa
