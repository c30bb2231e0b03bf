/- What a reader of chunks makes of a byte. -/
import Derived.Test.YtdameoejigpnhaaGreatDoorChunkStep
namespace Go.Proofs.YtdameoejigpnhaaGreatDoor
open Go.RowKit
set_option linter.unusedVariables false

set_option maxHeartbeats 1000000 in
theorem tsz0 (g : Nat) (own : Nat → Prop) (most : Nat) (body : List Int) (b : Int) (w : World) (h : Rd w g own most ⟨0, 0, body⟩) (hb : 0 ≤ b ∧ b ≤ 255) :
    Calls Tryz.prog 71 #[.pointer (some ⟨g, 0, none⟩), .int .u8 b] w fun e w' => e = .returned (.int .i64 (stp most ⟨0, 0, body⟩ b).2) ∧ Rd w' g own most (stp most ⟨0, 0, body⟩ b).1 ∧ Kept own w w' := by
  have H := Bx.mk h
  obtain ⟨hci, v, hR0⟩ := h
  have hcm := hci.m
  have hcb := hci.b
  have HC := Bx.mk hci
  simp only at hcb
  obtain ⟨a, c, rfl, _⟩ := Bts.of_owns hR0.vr hR0.byt
  have c0 : w.cell? ⟨g, 0, none⟩ = some (.int .i64 1) := hR0.c0
  have c1 := hR0.c1
  have c2 : w.cell? ⟨g, 2, none⟩ = some (.int .i64 0) := hR0.c2
  have c3 := hR0.c3
  have f0 := hR0.fr 0
  have f2 := hR0.fr 2
  have HR : Bx (RdR w g own 1 (most : Int) 0 body (.slice a body.length c)) := ⟨hR0⟩
  have hdl := dgt_le b
  have HST : Bx (stp most ⟨0, 0, body⟩ b = if dgt b = 16 then (⟨0, 0, body⟩, 4) else if dgt b = 0 then (⟨1, 0, body⟩, 0) else if most < body.length + dgt b then (⟨0, 0, body⟩, 5) else (⟨2, dgt b, body⟩, 0)) := ⟨rfl⟩
  clear hR0 hci
  simp only at c3
  by_cases hd : dgt b = 16
  · have HS : Bx (stp most ⟨0, 0, body⟩ b = (⟨0, 0, body⟩, 4)) := ⟨by rw [HST.out, if_pos hd]⟩
    have HDV : Bx (dgV b = 0) := ⟨by unfold dgV; rw [if_pos hd]⟩
    have HDB : Bx ((dgt b != 16) = false) := ⟨by rw [hd]; rfl⟩
    clear hd hdl HST
    by_cases h13 : b = 13
    · have g1 : (b == 13) = true := by simpa using h13
      clear h13
      skip
      go_enter Tryz.func71, Tryz.ntmps71
      go_wp2_with fail
      refine (digit_any b _ hb).mono ?_
      rintro e w' ⟨rfl, rfl⟩
      rw [HDV.out, HDB.out]
      go_wp2
      go_ret
      exact ⟨ret_int (by rw [HS.out]), by rw [HS.out]; exact H.out, Kept.refl _ _⟩
    · have g1 : (b == 13) = false := by simpa using h13
      clear h13
      skip
      go_enter Tryz.func71, Tryz.ntmps71
      go_wp2_with fail
      refine (digit_any b _ hb).mono ?_
      rintro e w' ⟨rfl, rfl⟩
      rw [HDV.out, HDB.out]
      go_wp2
      go_ret
      exact ⟨ret_int (by rw [HS.out]), by rw [HS.out]; exact H.out, Kept.refl _ _⟩
  · have g1 : (b == 13) = false := by
      rw [beq_eq_false_iff_ne]; rintro rfl; exact hd dgt_13
    have HDB : Bx ((dgt b != 16) = true) := ⟨by simpa using hd⟩
    by_cases h0 : dgt b = 0
    · have HS : Bx (stp most ⟨0, 0, body⟩ b = (⟨1, 0, body⟩, 0)) := ⟨by rw [HST.out, if_neg hd, if_pos h0]⟩
      have HDV : Bx (dgV b = 0) := ⟨by unfold dgV; rw [if_neg hd, h0]; rfl⟩
      have HC2 : Bx (CI most ⟨1, 0, body⟩) := ⟨by have := (HC.out.stp (b := b) hb (by rw [HS.out])).1; rw [HS.out] at this; exact this⟩
      clear hd hdl HST h0
      skip
      go_enter Tryz.func71, Tryz.ntmps71
      go_wp2_with fail
      refine (digit_any b _ hb).mono ?_
      rintro e w' ⟨rfl, rfl⟩
      rw [HDV.out, HDB.out]
      go_wp2
      go_ret
      exact ⟨ret_int (by rw [HS.out]), by rw [HS.out]; exact ⟨HC2.out, _, HR.out.setAt 7⟩, HR.out.kset 0 _⟩
    · obtain ⟨D, hD⟩ : ∃ D : Int, D = (dgt b : Int) := ⟨_, rfl⟩
      have hD0 : 1 ≤ D ∧ D ≤ 15 := by omega
      have g2 : (D == 0) = false := by simp; omega
      have HDV : Bx (dgV b = D) := ⟨by unfold dgV; rw [if_neg hd, hD]⟩
      by_cases hbig : most < body.length + dgt b
      · have HS : Bx (stp most ⟨0, 0, body⟩ b = (⟨0, 0, body⟩, 5)) := ⟨by rw [HST.out, if_neg hd, if_neg h0, if_pos hbig]⟩
        have g3 : decide ((body.length : Int) + D > (most : Int)) = true := by simp; omega
        clear hd hdl HST h0 hD hbig
        skip
        go_enter Tryz.func71, Tryz.ntmps71
        go_wp2_with fail
        refine (digit_any b _ hb).mono ?_
        rintro e w' ⟨rfl, rfl⟩
        rw [HDV.out, HDB.out]
        go_wp2
        go_quiet (fail)
        go_wp2
        go_ret
        exact ⟨ret_int (by rw [HS.out]), ⟨by rw [HS.out]; exact HC.out, _, by rw [HS.out]; exact HR.out.keep (fun _ _ => rfl) (Nat.le_refl _)⟩, (Kept.refl own _).drewN _⟩
      · have HS : Bx (stp most ⟨0, 0, body⟩ b = (⟨2, dgt b, body⟩, 0)) := ⟨by rw [HST.out, if_neg hd, if_neg h0, if_neg hbig]⟩
        have HC2 : Bx (CI most ⟨2, dgt b, body⟩) := ⟨by have := (HC.out.stp (b := b) hb (by rw [HS.out])).1; rw [HS.out] at this; exact this⟩
        have HSZ : Bx (D = (dgt b : Int)) := ⟨hD⟩
        have g3 : decide ((body.length : Int) + D > (most : Int)) = false := by simp; omega
        clear hd hdl HST h0 hD hbig
        skip
        go_enter Tryz.func71, Tryz.ntmps71
        go_wp2_with fail
        refine (digit_any b _ hb).mono ?_
        rintro e w' ⟨rfl, rfl⟩
        rw [HDV.out, HDB.out]
        go_wp2
        go_quiet (fail)
        have HR1 : Bx (RdR (w.drewN nq) g own 1 (most : Int) (0 : Int) body (.slice a body.length c)) := ⟨HR.out.keep (fun _ _ => rfl) (Nat.le_refl _)⟩
        have HK1 : Bx (Kept own w (w.drewN nq)) := ⟨(Kept.refl own _).drewN _⟩
        generalize w.drewN nq = w1 at HR1 HK1 ⊢
        have d0 := HR1.out.c0
        have d2 := HR1.out.c2
        have f0 := HR1.out.fr 0
        have f2 := HR1.out.fr 2
        go_wp2
        go_ret
        refine ⟨ret_int (by rw [HS.out]), ⟨by rw [HS.out]; exact HC2.out, .slice a body.length c, ?_⟩, (HK1.out.setCell (.inl HR.out.og) 2 _).setCell (.inl HR.out.og) 0 _⟩
        rw [HS.out]
        have hq := (HR1.out.setLeft (D)).setAt 2
        rw [HSZ.out] at hq ⊢
        exact hq
set_option maxHeartbeats 1000000 in
theorem tsz2 (g : Nat) (own : Nat → Prop) (most n : Nat) (body : List Int) (b : Int) (w : World) (h : Rd w g own most ⟨2, n, body⟩) (hb : 0 ≤ b ∧ b ≤ 255) :
    Calls Tryz.prog 71 #[.pointer (some ⟨g, 0, none⟩), .int .u8 b] w fun e w' => e = .returned (.int .i64 (stp most ⟨2, n, body⟩ b).2) ∧ Rd w' g own most (stp most ⟨2, n, body⟩ b).1 ∧ Kept own w w' := by
  have H := Bx.mk h
  obtain ⟨hci, v, hR0⟩ := h
  have hcm := hci.m
  have hcb := hci.b
  have hcn := hci.n
  have HC := Bx.mk hci
  simp only at hcb hcn
  obtain ⟨a, c, rfl, _⟩ := Bts.of_owns hR0.vr hR0.byt
  have c0 : w.cell? ⟨g, 0, none⟩ = some (.int .i64 2) := hR0.c0
  have c1 := hR0.c1
  have c2 : w.cell? ⟨g, 2, none⟩ = some (.int .i64 (n : Int)) := hR0.c2
  have c3 := hR0.c3
  have f0 := hR0.fr 0
  have f2 := hR0.fr 2
  have HR : Bx (RdR w g own 2 (most : Int) (n : Int) body (.slice a body.length c)) := ⟨hR0⟩
  have hdl := dgt_le b
  have HST : Bx (stp most ⟨2, n, body⟩ b = if b = 13 then (⟨3, n, body⟩, 0) else if dgt b = 16 then (⟨2, n, body⟩, 4) else if most < body.length + (16 * n + dgt b) then (⟨2, n, body⟩, 5) else (⟨2, 16 * n + dgt b, body⟩, 0)) := ⟨rfl⟩
  clear hR0 hci
  simp only at c3
  by_cases h13 : b = 13
  · have HS : Bx (stp most ⟨2, n, body⟩ b = (⟨3, n, body⟩, 0)) := ⟨by rw [HST.out, if_pos h13]⟩
    have HC2 : Bx (CI most ⟨3, n, body⟩) := ⟨by have := (HC.out.stp (b := b) hb (by rw [HS.out])).1; rw [HS.out] at this; exact this⟩
    have g1 : (b == 13) = true := by simpa using h13
    clear h13 hdl HST
    go_enter Tryz.func71, Tryz.ntmps71
    go_wp2
    go_ret
    exact ⟨ret_int (by rw [HS.out]), by rw [HS.out]; exact ⟨HC2.out, _, HR.out.setAt 3⟩, HR.out.kset 0 _⟩
  · have g1 : (b == 13) = false := by simpa using h13
    by_cases hd : dgt b = 16
    · have HS : Bx (stp most ⟨2, n, body⟩ b = (⟨2, n, body⟩, 4)) := ⟨by rw [HST.out, if_neg h13, if_pos hd]⟩
      have HDV : Bx (dgV b = 0) := ⟨by unfold dgV; rw [if_pos hd]⟩
      have HDB : Bx ((dgt b != 16) = false) := ⟨by rw [hd]; rfl⟩
      clear hd hdl HST h13
      skip
      go_enter Tryz.func71, Tryz.ntmps71
      go_wp2_with fail
      refine (digit_any b _ hb).mono ?_
      rintro e w' ⟨rfl, rfl⟩
      rw [HDV.out, HDB.out]
      go_wp2
      go_ret
      exact ⟨ret_int (by rw [HS.out]), by rw [HS.out]; exact H.out, Kept.refl _ _⟩
    · have HDB : Bx ((dgt b != 16) = true) := ⟨by simpa using hd⟩
      obtain ⟨D, hD⟩ : ∃ D : Int, D = (dgt b : Int) := ⟨_, rfl⟩
      have hD0 : 0 ≤ D ∧ D ≤ 15 := by omega
      have HDV : Bx (dgV b = D) := ⟨by unfold dgV; rw [if_neg hd, hD]⟩
      by_cases hbig : most < body.length + (16 * n + dgt b)
      · have HS : Bx (stp most ⟨2, n, body⟩ b = (⟨2, n, body⟩, 5)) := ⟨by rw [HST.out, if_neg h13, if_neg hd, if_pos hbig]⟩
        have g3 : decide ((body.length : Int) + (16 * (n : Int) + D) > (most : Int)) = true := by simp; omega
        clear hd hdl HST h13 hD hbig
        by_cases h0 : D = 0
        · have g2 : (D == 0) = true := by simpa using h0
          clear h0
          skip
          go_enter Tryz.func71, Tryz.ntmps71
          go_wp2_with fail
          refine (digit_any b _ hb).mono ?_
          rintro e w' ⟨rfl, rfl⟩
          rw [HDV.out, HDB.out]
          go_wp2
          go_quiet (fail)
          go_wp2
          go_ret
          exact ⟨ret_int (by rw [HS.out]), ⟨by rw [HS.out]; exact HC.out, _, by rw [HS.out]; exact HR.out.keep (fun _ _ => rfl) (Nat.le_refl _)⟩, (Kept.refl own _).drewN _⟩
        · have g2 : (D == 0) = false := by simpa using h0
          clear h0
          skip
          go_enter Tryz.func71, Tryz.ntmps71
          go_wp2_with fail
          refine (digit_any b _ hb).mono ?_
          rintro e w' ⟨rfl, rfl⟩
          rw [HDV.out, HDB.out]
          go_wp2
          go_quiet (fail)
          go_wp2
          go_ret
          exact ⟨ret_int (by rw [HS.out]), ⟨by rw [HS.out]; exact HC.out, _, by rw [HS.out]; exact HR.out.keep (fun _ _ => rfl) (Nat.le_refl _)⟩, (Kept.refl own _).drewN _⟩
      · have HS : Bx (stp most ⟨2, n, body⟩ b = (⟨2, 16 * n + dgt b, body⟩, 0)) := ⟨by rw [HST.out, if_neg h13, if_neg hd, if_neg hbig]⟩
        have HC2 : Bx (CI most ⟨2, 16 * n + dgt b, body⟩) := ⟨by have := (HC.out.stp (b := b) hb (by rw [HS.out])).1; rw [HS.out] at this; exact this⟩
        have HSZ : Bx (16 * (n : Int) + D = ((16 * n + dgt b : Nat) : Int)) := ⟨by omega⟩
        have g3 : decide ((body.length : Int) + (16 * (n : Int) + D) > (most : Int)) = false := by simp; omega
        clear hd hdl HST h13 hD hbig
        by_cases h0 : D = 0
        · have g2 : (D == 0) = true := by simpa using h0
          clear h0
          skip
          go_enter Tryz.func71, Tryz.ntmps71
          go_wp2_with fail
          refine (digit_any b _ hb).mono ?_
          rintro e w' ⟨rfl, rfl⟩
          rw [HDV.out, HDB.out]
          go_wp2
          go_quiet (fail)
          have HR1 : Bx (RdR (w.drewN nq) g own 2 (most : Int) (n : Int) body (.slice a body.length c)) := ⟨HR.out.keep (fun _ _ => rfl) (Nat.le_refl _)⟩
          have HK1 : Bx (Kept own w (w.drewN nq)) := ⟨(Kept.refl own _).drewN _⟩
          generalize w.drewN nq = w1 at HR1 HK1 ⊢
          have d0 := HR1.out.c0
          have d2 := HR1.out.c2
          have f0 := HR1.out.fr 0
          have f2 := HR1.out.fr 2
          go_wp2
          go_ret
          refine ⟨ret_int (by rw [HS.out]), ⟨by rw [HS.out]; exact HC2.out, .slice a body.length c, ?_⟩, (HK1.out.setCell (.inl HR.out.og) 2 _).setCell (.inl HR.out.og) 0 _⟩
          rw [HS.out]
          have hq := (HR1.out.setLeft (16 * (n : Int) + D)).setAt 2
          rw [HSZ.out] at hq ⊢
          exact hq
        · have g2 : (D == 0) = false := by simpa using h0
          clear h0
          skip
          go_enter Tryz.func71, Tryz.ntmps71
          go_wp2_with fail
          refine (digit_any b _ hb).mono ?_
          rintro e w' ⟨rfl, rfl⟩
          rw [HDV.out, HDB.out]
          go_wp2
          go_quiet (fail)
          have HR1 : Bx (RdR (w.drewN nq) g own 2 (most : Int) (n : Int) body (.slice a body.length c)) := ⟨HR.out.keep (fun _ _ => rfl) (Nat.le_refl _)⟩
          have HK1 : Bx (Kept own w (w.drewN nq)) := ⟨(Kept.refl own _).drewN _⟩
          generalize w.drewN nq = w1 at HR1 HK1 ⊢
          have d0 := HR1.out.c0
          have d2 := HR1.out.c2
          have f0 := HR1.out.fr 0
          have f2 := HR1.out.fr 2
          go_wp2
          go_ret
          refine ⟨ret_int (by rw [HS.out]), ⟨by rw [HS.out]; exact HC2.out, .slice a body.length c, ?_⟩, (HK1.out.setCell (.inl HR.out.og) 2 _).setCell (.inl HR.out.og) 0 _⟩
          rw [HS.out]
          have hq := (HR1.out.setLeft (16 * (n : Int) + D)).setAt 2
          rw [HSZ.out] at hq ⊢
          exact hq
set_option maxHeartbeats 1000000 in
theorem tbyte (g : Nat) (own : Nat → Prop) (most n : Nat) (body : List Int) (b : Int) (w : World) (h : Rd w g own most ⟨4, n, body⟩) (hb : 0 ≤ b ∧ b ≤ 255) :
    Calls Tryz.prog 72 #[.pointer (some ⟨g, 0, none⟩), .int .u8 b] w fun e w' => e = .returned (.tuple #[]) ∧ ∃ own', Rd w' g own' most (stp most ⟨4, n, body⟩ b).1 ∧ Did own w w' own' := by
  obtain ⟨hci, v, hR0⟩ := h
  have hcm := hci.m
  have hcb := hci.b
  have hcy := hci.y (by show 2 ≤ 4; decide) (by show 4 ≤ 4; decide)
  have HST : Bx (stp most ⟨4, n, body⟩ b = if n = 1 then (⟨5, 0, body ++ [b]⟩, 0) else (⟨4, n - 1, body ++ [b]⟩, 0)) := ⟨rfl⟩
  have HC2 : Bx (CI most (stp most ⟨4, n, body⟩ b).1) := ⟨(hci.stp hb (by rw [HST.out]; split <;> rfl)).1⟩
  simp only at hcb hcy
  obtain ⟨a, c, rfl, _⟩ := Bts.of_owns hR0.vr hR0.byt
  have c0 : w.cell? ⟨g, 0, none⟩ = some (.int .i64 4) := hR0.c0
  have c3 := hR0.c3
  have HR : Bx (RdR w g own 4 (most : Int) (n : Int) body (.slice a body.length c)) := ⟨hR0⟩
  have HV : Bx (w.ownsRow 0 5 1 (.slice a body.length c) body.length (bv body)) := ⟨hR0.vr⟩
  obtain ⟨i0, hi, hz0, hz1, hz2⟩ := info_parts Tryz.info5
  clear hR0 hci
  simp only at c3
  by_cases h1 : n = 1
  · have HS : Bx (stp most ⟨4, n, body⟩ b = (⟨5, 0, body ++ [b]⟩, 0)) := ⟨by rw [HST.out, if_pos h1]⟩
    have g1 : (((n : Int) - 1) == 0) = true := by simp; omega
    have HN : Bx (((n : Int) - 1) = 0) := ⟨by omega⟩
    clear h1 HST
    skip
    go_enter Tryz.func72, Tryz.ntmps72
    go_wp2_with (at_builtin; refine wpList_append_lies _ rfl (.tmp 8) (.tmp 10) 22 rfl 0 5 i0 (.int .u8 0) 1 1 Tryz.underlying22 hi hz0 hz1 hz2 rfl (by decide) _ body.length (bv body) rfl (HV.out.alloc _) ⟨w.heap.size, 0, none⟩ 1 1 [.int .u8 b] rfl rfl (World.news_of_block (heap_alloc_new w _)) (by simp [Value.oneCell']) (by decide) (by unfold maxLen; omega) (by omega) (Nat.zero_le _) _ rfl ?_; intro g4 cap4 w4 hown4 hgr4 hl4 hlt4; obtain ⟨hr4, hR4, hK4⟩ := HR.out.more hb rfl hown4 hgr4 hl4 (by simp) hlt4; have k0 : w4.cell? ⟨g, 0, none⟩ = some (.int .i64 4) := (by rw [cell_of_row w4 g 0 _ _ (0, 0) hr4]; rfl); have k2 : w4.cell? ⟨g, 2, none⟩ = some (.int .i64 (n : Int)) := (by rw [cell_of_row w4 g 2 _ _ (0, 0) hr4]; rfl); have k3 : w4.cell? ⟨g, 3, none⟩ = some (.slice a body.length c) := (by rw [cell_of_row w4 g 3 _ _ (0, 0) hr4]; rfl); have f0 : w4.frozen? ⟨g, 0, none⟩ = false := frozen_of_row _ _ 0 _ _ hr4; have f2 : w4.frozen? ⟨g, 2, none⟩ = false := frozen_of_row _ _ 2 _ _ hr4; have f3 : w4.frozen? ⟨g, 3, none⟩ = false := frozen_of_row _ _ 3 _ _ hr4; have HR4 := Bx.mk hR4; have HK4 := Bx.mk hK4; have HD4 : Bx (∀ W : World, w4.heap.size ≤ W.heap.size → ∀ k, (own k ∨ (w.heap.size ≤ k ∧ k < w4.heap.size)) → own k ∨ (w.heap.size ≤ k ∧ k < W.heap.size)) := ⟨fun W hW k hk => by (rcases hk with hk | hk; exact .inl hk; exact .inr ⟨hk.1, by omega⟩)⟩; clear hown4 hgr4 hl4 hlt4 hi hz0 hz1 hz2 hR4 hK4 hr4 c3 c0)
    go_end0
    refine ⟨rfl, fun k => own k ∨ (w.heap.size ≤ k ∧ k < w4.heap.size), ⟨HC2.out, .slice (some ⟨g4, 0, none⟩) (body.length + 1) cap4, ?_⟩, (HK4.out.setCell (.inl HR.out.og) 2 _).setCell (.inl HR.out.og) 0 _, fun k hk => HD4.out _ (by simp [World.setCell]) k hk⟩
    rw [HS.out]
    have hq := (HR4.out.setLeft ((n : Int) - 1)).setAt 5
    rw [HN.out] at hq ⊢
    exact hq
  · have HS : Bx (stp most ⟨4, n, body⟩ b = (⟨4, n - 1, body ++ [b]⟩, 0)) := ⟨by rw [HST.out, if_neg h1]⟩
    have g1 : (((n : Int) - 1) == 0) = false := by simp; omega
    have HN : Bx (((n : Int) - 1) = ((n - 1 : Nat) : Int)) := ⟨by omega⟩
    clear h1 HST
    skip
    go_enter Tryz.func72, Tryz.ntmps72
    go_wp2_with (at_builtin; refine wpList_append_lies _ rfl (.tmp 8) (.tmp 10) 22 rfl 0 5 i0 (.int .u8 0) 1 1 Tryz.underlying22 hi hz0 hz1 hz2 rfl (by decide) _ body.length (bv body) rfl (HV.out.alloc _) ⟨w.heap.size, 0, none⟩ 1 1 [.int .u8 b] rfl rfl (World.news_of_block (heap_alloc_new w _)) (by simp [Value.oneCell']) (by decide) (by unfold maxLen; omega) (by omega) (Nat.zero_le _) _ rfl ?_; intro g4 cap4 w4 hown4 hgr4 hl4 hlt4; obtain ⟨hr4, hR4, hK4⟩ := HR.out.more hb rfl hown4 hgr4 hl4 (by simp) hlt4; have k0 : w4.cell? ⟨g, 0, none⟩ = some (.int .i64 4) := (by rw [cell_of_row w4 g 0 _ _ (0, 0) hr4]; rfl); have k2 : w4.cell? ⟨g, 2, none⟩ = some (.int .i64 (n : Int)) := (by rw [cell_of_row w4 g 2 _ _ (0, 0) hr4]; rfl); have k3 : w4.cell? ⟨g, 3, none⟩ = some (.slice a body.length c) := (by rw [cell_of_row w4 g 3 _ _ (0, 0) hr4]; rfl); have f0 : w4.frozen? ⟨g, 0, none⟩ = false := frozen_of_row _ _ 0 _ _ hr4; have f2 : w4.frozen? ⟨g, 2, none⟩ = false := frozen_of_row _ _ 2 _ _ hr4; have f3 : w4.frozen? ⟨g, 3, none⟩ = false := frozen_of_row _ _ 3 _ _ hr4; have HR4 := Bx.mk hR4; have HK4 := Bx.mk hK4; have HD4 : Bx (∀ W : World, w4.heap.size ≤ W.heap.size → ∀ k, (own k ∨ (w.heap.size ≤ k ∧ k < w4.heap.size)) → own k ∨ (w.heap.size ≤ k ∧ k < W.heap.size)) := ⟨fun W hW k hk => by (rcases hk with hk | hk; exact .inl hk; exact .inr ⟨hk.1, by omega⟩)⟩; clear hown4 hgr4 hl4 hlt4 hi hz0 hz1 hz2 hR4 hK4 hr4 c3 c0)
    go_end0
    refine ⟨rfl, fun k => own k ∨ (w.heap.size ≤ k ∧ k < w4.heap.size), ⟨HC2.out, .slice (some ⟨g4, 0, none⟩) (body.length + 1) cap4, ?_⟩, HK4.out.setCell (.inl HR.out.og) 2 _, fun k hk => HD4.out _ (by simp [World.setCell]) k hk⟩
    rw [HS.out]
    have hq := HR4.out.setLeft ((n : Int) - 1)
    rw [HN.out] at hq ⊢
    exact hq
end Go.Proofs.YtdameoejigpnhaaGreatDoor
