/- What the small calls of a reader of chunks answer. What a reader of chunks makes of a byte. What a reader of chunks answers to a byte: take, Put. -/
import Derived.Test.YtpfijaojgeceeaaGreatDoorAuao
import Derived.Test.YtpfijaojgeceeaaGreatDoorAual
namespace Go.Proofs.YtpfijaojgeceeaaGreatDoor
open Go.RowKit
set_option linter.unusedVariables false

/-- what the one byte must be, and where a reader stands behind it -/
def fxB (p : Nat) : Int := if p = 1 ∨ p = 5 ∨ p = 8 then 13 else 10
def fxN (p : Nat) : Nat := if p = 1 then 7 else if p = 6 then 0 else p + 1
set_option maxRecDepth 100000 in
theorem stp_fix (most : Nat) (s : CS) (b : Int) (h : s.ph < 10) (h0 : s.ph ≠ 0) (h2 : s.ph ≠ 2) (h4 : s.ph ≠ 4) (hc : CI most s) : stp most s b = if b = fxB s.ph then (⟨fxN s.ph, s.n, s.body⟩, 0) else (s, 4) := by
  obtain ⟨ph, n, body⟩ := s
  have hz := hc.z
  simp only at h h0 h2 h4 hz
  match ph, h with
  | 0, _ => exact absurd rfl h0
  | 1, _ => rw [hz (by decide) (by decide)]; rfl
  | 2, _ => exact absurd rfl h2
  | 3, _ => rfl
  | 4, _ => exact absurd rfl h4
  | 5, _ => rw [hz (by decide) (by decide)]; rfl
  | 6, _ => rw [hz (by decide) (by decide)]; rfl
  | 7, _ => rw [hz (by decide) (by decide)]; rfl
  | 8, _ => rw [hz (by decide) (by decide)]; rfl
  | 9, _ => rw [hz (by decide) (by decide)]; rfl
  | (k + 10), h => omega
set_option maxHeartbeats 400000 in
theorem fixed_any (p : Nat) (w : World) (h : p < 10) (h0 : p ≠ 0) (h2 : p ≠ 2) (h4 : p ≠ 4) :
    Calls Tryz.prog 76 #[.int .i64 (atN p)] w fun e w' => e = .returned (.tuple #[.int .u8 (fxB p), .int .i64 (atN (fxN p))]) ∧ w = w' := by
  match p, h with
  | 0, _ => exact absurd rfl h0
  | 1, _ =>
    clear h0 h2 h4
    rw [show atN 1 = 7 from rfl, show atN (fxN 1) = 8 from rfl, show fxB 1 = 13 from rfl]
    go_enter Tryz.func76, Tryz.ntmps76
    go_wp2
    go_ret2
    exact ⟨rfl, rfl⟩
  | 2, _ => exact absurd rfl h2
  | 3, _ =>
    clear h0 h2 h4
    rw [show atN 3 = 3 from rfl, show atN (fxN 3) = 4 from rfl, show fxB 3 = 10 from rfl]
    go_enter Tryz.func76, Tryz.ntmps76
    go_wp2
    go_ret2
    exact ⟨rfl, rfl⟩
  | 4, _ => exact absurd rfl h4
  | 5, _ =>
    clear h0 h2 h4
    rw [show atN 5 = 5 from rfl, show atN (fxN 5) = 6 from rfl, show fxB 5 = 13 from rfl]
    go_enter Tryz.func76, Tryz.ntmps76
    go_wp2
    go_ret2
    exact ⟨rfl, rfl⟩
  | 6, _ =>
    clear h0 h2 h4
    rw [show atN 6 = 6 from rfl, show atN (fxN 6) = 1 from rfl, show fxB 6 = 10 from rfl]
    go_enter Tryz.func76, Tryz.ntmps76
    go_wp2
    go_ret2
    exact ⟨rfl, rfl⟩
  | 7, _ =>
    clear h0 h2 h4
    rw [show atN 7 = 8 from rfl, show atN (fxN 7) = 9 from rfl, show fxB 7 = 10 from rfl]
    go_enter Tryz.func76, Tryz.ntmps76
    go_wp2
    go_ret2
    exact ⟨rfl, rfl⟩
  | 8, _ =>
    clear h0 h2 h4
    rw [show atN 8 = 9 from rfl, show atN (fxN 8) = 10 from rfl, show fxB 8 = 13 from rfl]
    go_enter Tryz.func76, Tryz.ntmps76
    go_wp2
    go_ret2
    exact ⟨rfl, rfl⟩
  | 9, _ =>
    clear h0 h2 h4
    rw [show atN 9 = 10 from rfl, show atN (fxN 9) = 11 from rfl, show fxB 9 = 10 from rfl]
    go_enter Tryz.func76, Tryz.ntmps76
    go_wp2
    go_ret2
    exact ⟨rfl, rfl⟩
  | (k + 10), h => omega
/-- a digit's number, or 0 where it is none -/
def dgV (b : Int) : Int := if dgt b = 16 then 0 else (dgt b : Int)
set_option maxHeartbeats 400000 in
theorem digit_any (b : Int) (w : World) (h : 0 ≤ b ∧ b ≤ 255) :
    Calls Tryz.prog 94 #[.int .u8 b] w fun e w' => e = .returned (.tuple #[.int .i64 (dgV b), .bool (dgt b != 16)]) ∧ w = w' := by
  obtain ⟨h0, h255⟩ := h
  by_cases h1 : 48 ≤ b ∧ b ≤ 57
  · have e : dgt b = (b - 48).toNat := by unfold dgt; rw [if_pos h1]
    have HV : Bx (dgV b = b - 48) := ⟨by unfold dgV; rw [e, if_neg (by omega)]; omega⟩
    have HB : Bx ((dgt b != 16) = true) := ⟨by rw [e]; simp; omega⟩
    obtain ⟨a1, a2⟩ := h1
    have g1 : decide (b ≥ 48) = true := by simpa using a1
    have g2 : decide (b ≤ 57) = true := by simpa using a2
    clear e
    go_enter Tryz.func94, Tryz.ntmps94
    go_wp2
    go_ret2
    exact ⟨by rw [HV.out, HB.out]; rfl, rfl⟩
  · by_cases h2 : 97 ≤ b ∧ b ≤ 102
    · have e : dgt b = (b - 87).toNat := by unfold dgt; rw [if_neg h1, if_pos h2]
      have HV : Bx (dgV b = b - 97 + 10) := ⟨by unfold dgV; rw [e, if_neg (by omega)]; omega⟩
      have HB : Bx ((dgt b != 16) = true) := ⟨by rw [e]; simp; omega⟩
      obtain ⟨a1, a2⟩ := h2
      have g0 : decide (b ≥ 48) = true := by simp; omega
      have g0' : decide (b ≤ 57) = false := by simp; omega
      have g1 : decide (b ≥ 97) = true := by simpa using a1
      have g2 : decide (b ≤ 102) = true := by simpa using a2
      clear e h1
      go_enter Tryz.func94, Tryz.ntmps94
      go_wp2
      go_ret2
      exact ⟨by rw [HV.out, HB.out]; rfl, rfl⟩
    · have e : dgt b = 16 := by unfold dgt; rw [if_neg h1, if_neg h2]
      have HV : Bx (dgV b = 0) := ⟨by unfold dgV; rw [if_pos e]⟩
      have HB : Bx ((dgt b != 16) = false) := ⟨by rw [e]; rfl⟩
      clear e
      by_cases a1 : 48 ≤ b
      · have g0 : decide (b ≥ 48) = true := by simpa using a1
        have g0' : decide (b ≤ 57) = false := by simp; omega
        by_cases a2 : 97 ≤ b
        · have g1 : decide (b ≥ 97) = true := by simpa using a2
          have g2 : decide (b ≤ 102) = false := by simp; omega
          clear h1 h2
          go_enter Tryz.func94, Tryz.ntmps94
          go_wp2
          go_ret2
          exact ⟨by rw [HV.out, HB.out]; rfl, rfl⟩
        · have g1 : decide (b ≥ 97) = false := by simp; omega
          clear h1 h2
          go_enter Tryz.func94, Tryz.ntmps94
          go_wp2
          go_ret2
          exact ⟨by rw [HV.out, HB.out]; rfl, rfl⟩
      · have g0 : decide (b ≥ 48) = false := by simp; omega
        have g1 : decide (b ≥ 97) = false := by simp; omega
        clear h1 h2
        go_enter Tryz.func94, Tryz.ntmps94
        go_wp2
        go_ret2
        exact ⟨by rw [HV.out, HB.out]; rfl, rfl⟩
set_option maxRecDepth 100000 in
theorem atN_pos (p : Nat) : (atN p != 0) = true := by
  unfold atN; split
  · rfl
  · split
    · rfl
    · split <;> (simp; omega)
set_option maxHeartbeats 400000 in
theorem cmade_yes (g : Nat) (own : Nat → Prop) (most : Nat) (s : CS) (w : World) (h : Rd w g own most s) :
    Calls Tryz.prog 58 #[.pointer (some ⟨g, 0, none⟩)] w fun e w' => e = .returned (.bool true) ∧ w = w' := by
  obtain ⟨_, v, hR⟩ := h
  have c0 := hR.c0
  have hp := atN_pos s.ph
  generalize atN s.ph = x at c0 hp
  clear hR
  go_enter Tryz.func58, Tryz.ntmps58
  go_wp2
  go_ret
  exact ⟨rfl, rfl⟩
set_option maxHeartbeats 400000 in
theorem cnew_bad (x : Int) (w : World) (h : x < 0 ∨ 2048 < x) :
    Calls Tryz.prog 60 #[.int .i64 x] w fun e w' => e = .returned (.tuple #[.pointer none, .int .i64 2]) ∧ w = w' := by
  by_cases h1 : x < 0
  · have g1 : decide (x < 0) = true := by simpa using h1
    clear h
    go_enter Tryz.func60, Tryz.ntmps60
    go_wp2
    go_ret2
    exact ⟨rfl, rfl⟩
  · have g1 : decide (x < 0) = false := by simpa using h1
    have g2 : decide (x > 2048) = true := by rcases h with h | h; exact absurd h h1; simpa using h
    clear h
    go_enter Tryz.func60, Tryz.ntmps60
    go_wp2
    go_ret2
    exact ⟨rfl, rfl⟩
set_option maxRecDepth 100000 in
theorem rd_new (w : World) (m : Nat) (hm : m ≤ 2048) : Rd (w.alloc (.cells #[.int .i64 1, .int .i64 (m : Int), .int .i64 0, .slice none 0 0] 99)) w.heap.size (fun k => k = w.heap.size) m ⟨0, 0, []⟩ :=
  ⟨CI.new hm, .slice none 0 0, Byt.nil, rfl, fun k hk => by rw [hk]; simp, heap_alloc_new w _, World.ownsRow_nil _ _ _ _, fun k hk => by cases hk⟩
set_option maxHeartbeats 400000 in
theorem cnew_any (x : Int) (m : Nat) (w : World) (hx : x = (m : Int)) (hm : m ≤ 2048) :
    Calls Tryz.prog 60 #[.int .i64 x] w fun e w' => e = .returned (.tuple #[.pointer (some ⟨w.heap.size, 0, none⟩), .int .i64 0]) ∧ Rd w' w.heap.size (fun k => k = w.heap.size) m ⟨0, 0, []⟩ ∧ Below w.heap.size w w' := by
  have HN := Bx.mk (rd_new w m hm)
  have HB : Bx (Below w.heap.size w (w.alloc (.cells #[.int .i64 1, .int .i64 (m : Int), .int .i64 0, .slice none 0 0] 99))) := ⟨(Below.refl _ _).alloc (Nat.le_refl _) _⟩
  have g1 : decide (x < 0) = false := by simp; omega
  have g2 : decide (x > 2048) = false := by simp; omega
  rw [← hx] at HN HB
  clear hx
  go_enter Tryz.func60, Tryz.ntmps60
  go_wp2
  go_ret2
  exact ⟨rfl, HN.out, HB.out⟩
set_option maxHeartbeats 400000 in
theorem cbody_any (g : Nat) (own : Nat → Prop) (most : Nat) (s : CS) (w : World) (h : Rd w g own most s) :
    Calls Tryz.prog 47 #[.pointer (some ⟨g, 0, none⟩)] w fun e w' => ∃ v, e = .returned v ∧ w'.ownsRow w.heap.size 5 1 v s.body.length (bv s.body) ∧ Below w.heap.size w w' := by
  have H := Bx.mk h
  obtain ⟨hci, v, hR⟩ := h
  have hcm := hci.m
  have hcb := hci.b
  clear hci
  obtain ⟨a, c, rfl, hb⟩ := Bts.of_owns hR.vr hR.byt
  have c3 := hR.c3
  have HBT := Bx.mk hb
  clear hR hb
  go_enter Tryz.func47, Tryz.ntmps47
  go_wp2_with fail
  refine (cmade_yes g own most s _ H.out).mono ?_
  rintro e w' ⟨rfl, rfl⟩
  go_wp2_with fail
  refine (clone_any a _ c _ _ HBT.out (by omega)).mono ?_
  rintro e w' ⟨v, rfl, ho, hb⟩
  go_wp2
  go_ret
  exact ⟨_, rfl, ho, hb⟩
end Go.Proofs.YtpfijaojgeceeaaGreatDoor
namespace Go.Proofs.YtpfijaojgeceeaaGreatDoor
open Go.RowKit
set_option linter.unusedVariables false

set_option maxHeartbeats 1000000 in
theorem tsz0 (g : Nat) (own : Nat → Prop) (most : Nat) (body : List Int) (b : Int) (w : World) (h : Rd w g own most ⟨0, 0, body⟩) (hb : 0 ≤ b ∧ b ≤ 255) :
    Calls Tryz.prog 74 #[.pointer (some ⟨g, 0, none⟩), .int .u8 b] w fun e w' => e = .returned (.int .i64 (stp most ⟨0, 0, body⟩ b).2) ∧ Rd w' g own most (stp most ⟨0, 0, body⟩ b).1 ∧ Kept own w w' := by
  have H := Bx.mk h
  obtain ⟨hci, v, hR0⟩ := h
  have hcm := hci.m
  have hcb := hci.b
  have HC := Bx.mk hci
  simp only at hcb
  obtain ⟨a, c, rfl, _⟩ := Bts.of_owns hR0.vr hR0.byt
  have c0 : w.cell? ⟨g, 0, none⟩ = some (.int .i64 1) := hR0.c0
  have c1 := hR0.c1
  have c2 : w.cell? ⟨g, 2, none⟩ = some (.int .i64 0) := hR0.c2
  have c3 := hR0.c3
  have f0 := hR0.fr 0
  have f2 := hR0.fr 2
  have HR : Bx (RdR w g own 1 (most : Int) 0 body (.slice a body.length c)) := ⟨hR0⟩
  have hdl := dgt_le b
  have HST : Bx (stp most ⟨0, 0, body⟩ b = if dgt b = 16 then (⟨0, 0, body⟩, 4) else if dgt b = 0 then (⟨1, 0, body⟩, 0) else if most < body.length + dgt b then (⟨0, 0, body⟩, 5) else (⟨2, dgt b, body⟩, 0)) := ⟨rfl⟩
  clear hR0 hci
  simp only at c3
  by_cases hd : dgt b = 16
  · have HS : Bx (stp most ⟨0, 0, body⟩ b = (⟨0, 0, body⟩, 4)) := ⟨by rw [HST.out, if_pos hd]⟩
    have HDV : Bx (dgV b = 0) := ⟨by unfold dgV; rw [if_pos hd]⟩
    have HDB : Bx ((dgt b != 16) = false) := ⟨by rw [hd]; rfl⟩
    clear hd hdl HST
    by_cases h13 : b = 13
    · have g1 : (b == 13) = true := by simpa using h13
      clear h13
      skip
      go_enter Tryz.func74, Tryz.ntmps74
      go_wp2_with fail
      refine (digit_any b _ hb).mono ?_
      rintro e w' ⟨rfl, rfl⟩
      rw [HDV.out, HDB.out]
      go_wp2
      go_ret
      exact ⟨ret_int (by rw [HS.out]), by rw [HS.out]; exact H.out, Kept.refl _ _⟩
    · have g1 : (b == 13) = false := by simpa using h13
      clear h13
      skip
      go_enter Tryz.func74, Tryz.ntmps74
      go_wp2_with fail
      refine (digit_any b _ hb).mono ?_
      rintro e w' ⟨rfl, rfl⟩
      rw [HDV.out, HDB.out]
      go_wp2
      go_ret
      exact ⟨ret_int (by rw [HS.out]), by rw [HS.out]; exact H.out, Kept.refl _ _⟩
  · have g1 : (b == 13) = false := by
      rw [beq_eq_false_iff_ne]; rintro rfl; exact hd dgt_13
    have HDB : Bx ((dgt b != 16) = true) := ⟨by simpa using hd⟩
    by_cases h0 : dgt b = 0
    · have HS : Bx (stp most ⟨0, 0, body⟩ b = (⟨1, 0, body⟩, 0)) := ⟨by rw [HST.out, if_neg hd, if_pos h0]⟩
      have HDV : Bx (dgV b = 0) := ⟨by unfold dgV; rw [if_neg hd, h0]; rfl⟩
      have HC2 : Bx (CI most ⟨1, 0, body⟩) := ⟨by have := (HC.out.stp (b := b) hb (by rw [HS.out])).1; rw [HS.out] at this; exact this⟩
      clear hd hdl HST h0
      skip
      go_enter Tryz.func74, Tryz.ntmps74
      go_wp2_with fail
      refine (digit_any b _ hb).mono ?_
      rintro e w' ⟨rfl, rfl⟩
      rw [HDV.out, HDB.out]
      go_wp2
      go_ret
      exact ⟨ret_int (by rw [HS.out]), by rw [HS.out]; exact ⟨HC2.out, _, HR.out.setAt 7⟩, HR.out.kset 0 _⟩
    · obtain ⟨D, hD⟩ : ∃ D : Int, D = (dgt b : Int) := ⟨_, rfl⟩
      have hD0 : 1 ≤ D ∧ D ≤ 15 := by omega
      have g2 : (D == 0) = false := by simp; omega
      have HDV : Bx (dgV b = D) := ⟨by unfold dgV; rw [if_neg hd, hD]⟩
      by_cases hbig : most < body.length + dgt b
      · have HS : Bx (stp most ⟨0, 0, body⟩ b = (⟨0, 0, body⟩, 5)) := ⟨by rw [HST.out, if_neg hd, if_neg h0, if_pos hbig]⟩
        have g3 : decide ((body.length : Int) + D > (most : Int)) = true := by simp; omega
        clear hd hdl HST h0 hD hbig
        skip
        go_enter Tryz.func74, Tryz.ntmps74
        go_wp2_with fail
        refine (digit_any b _ hb).mono ?_
        rintro e w' ⟨rfl, rfl⟩
        rw [HDV.out, HDB.out]
        go_wp2
        go_quiet (fail)
        go_wp2
        go_ret
        exact ⟨ret_int (by rw [HS.out]), ⟨by rw [HS.out]; exact HC.out, _, by rw [HS.out]; exact HR.out.keep (fun _ _ => rfl) (Nat.le_refl _)⟩, (Kept.refl own _).drewN _⟩
      · have HS : Bx (stp most ⟨0, 0, body⟩ b = (⟨2, dgt b, body⟩, 0)) := ⟨by rw [HST.out, if_neg hd, if_neg h0, if_neg hbig]⟩
        have HC2 : Bx (CI most ⟨2, dgt b, body⟩) := ⟨by have := (HC.out.stp (b := b) hb (by rw [HS.out])).1; rw [HS.out] at this; exact this⟩
        have HSZ : Bx (D = (dgt b : Int)) := ⟨hD⟩
        have g3 : decide ((body.length : Int) + D > (most : Int)) = false := by simp; omega
        clear hd hdl HST h0 hD hbig
        skip
        go_enter Tryz.func74, Tryz.ntmps74
        go_wp2_with fail
        refine (digit_any b _ hb).mono ?_
        rintro e w' ⟨rfl, rfl⟩
        rw [HDV.out, HDB.out]
        go_wp2
        go_quiet (fail)
        have HR1 : Bx (RdR (w.drewN nq) g own 1 (most : Int) (0 : Int) body (.slice a body.length c)) := ⟨HR.out.keep (fun _ _ => rfl) (Nat.le_refl _)⟩
        have HK1 : Bx (Kept own w (w.drewN nq)) := ⟨(Kept.refl own _).drewN _⟩
        generalize w.drewN nq = w1 at HR1 HK1 ⊢
        have d0 := HR1.out.c0
        have d2 := HR1.out.c2
        have f0 := HR1.out.fr 0
        have f2 := HR1.out.fr 2
        go_wp2
        go_ret
        refine ⟨ret_int (by rw [HS.out]), ⟨by rw [HS.out]; exact HC2.out, .slice a body.length c, ?_⟩, (HK1.out.setCell (.inl HR.out.og) 2 _).setCell (.inl HR.out.og) 0 _⟩
        rw [HS.out]
        have hq := (HR1.out.setLeft (D)).setAt 2
        rw [HSZ.out] at hq ⊢
        exact hq
set_option maxHeartbeats 1000000 in
theorem tsz2 (g : Nat) (own : Nat → Prop) (most n : Nat) (body : List Int) (b : Int) (w : World) (h : Rd w g own most ⟨2, n, body⟩) (hb : 0 ≤ b ∧ b ≤ 255) :
    Calls Tryz.prog 74 #[.pointer (some ⟨g, 0, none⟩), .int .u8 b] w fun e w' => e = .returned (.int .i64 (stp most ⟨2, n, body⟩ b).2) ∧ Rd w' g own most (stp most ⟨2, n, body⟩ b).1 ∧ Kept own w w' := by
  have H := Bx.mk h
  obtain ⟨hci, v, hR0⟩ := h
  have hcm := hci.m
  have hcb := hci.b
  have hcn := hci.n
  have HC := Bx.mk hci
  simp only at hcb hcn
  obtain ⟨a, c, rfl, _⟩ := Bts.of_owns hR0.vr hR0.byt
  have c0 : w.cell? ⟨g, 0, none⟩ = some (.int .i64 2) := hR0.c0
  have c1 := hR0.c1
  have c2 : w.cell? ⟨g, 2, none⟩ = some (.int .i64 (n : Int)) := hR0.c2
  have c3 := hR0.c3
  have f0 := hR0.fr 0
  have f2 := hR0.fr 2
  have HR : Bx (RdR w g own 2 (most : Int) (n : Int) body (.slice a body.length c)) := ⟨hR0⟩
  have hdl := dgt_le b
  have HST : Bx (stp most ⟨2, n, body⟩ b = if b = 13 then (⟨3, n, body⟩, 0) else if dgt b = 16 then (⟨2, n, body⟩, 4) else if most < body.length + (16 * n + dgt b) then (⟨2, n, body⟩, 5) else (⟨2, 16 * n + dgt b, body⟩, 0)) := ⟨rfl⟩
  clear hR0 hci
  simp only at c3
  by_cases h13 : b = 13
  · have HS : Bx (stp most ⟨2, n, body⟩ b = (⟨3, n, body⟩, 0)) := ⟨by rw [HST.out, if_pos h13]⟩
    have HC2 : Bx (CI most ⟨3, n, body⟩) := ⟨by have := (HC.out.stp (b := b) hb (by rw [HS.out])).1; rw [HS.out] at this; exact this⟩
    have g1 : (b == 13) = true := by simpa using h13
    clear h13 hdl HST
    go_enter Tryz.func74, Tryz.ntmps74
    go_wp2
    go_ret
    exact ⟨ret_int (by rw [HS.out]), by rw [HS.out]; exact ⟨HC2.out, _, HR.out.setAt 3⟩, HR.out.kset 0 _⟩
  · have g1 : (b == 13) = false := by simpa using h13
    by_cases hd : dgt b = 16
    · have HS : Bx (stp most ⟨2, n, body⟩ b = (⟨2, n, body⟩, 4)) := ⟨by rw [HST.out, if_neg h13, if_pos hd]⟩
      have HDV : Bx (dgV b = 0) := ⟨by unfold dgV; rw [if_pos hd]⟩
      have HDB : Bx ((dgt b != 16) = false) := ⟨by rw [hd]; rfl⟩
      clear hd hdl HST h13
      skip
      go_enter Tryz.func74, Tryz.ntmps74
      go_wp2_with fail
      refine (digit_any b _ hb).mono ?_
      rintro e w' ⟨rfl, rfl⟩
      rw [HDV.out, HDB.out]
      go_wp2
      go_ret
      exact ⟨ret_int (by rw [HS.out]), by rw [HS.out]; exact H.out, Kept.refl _ _⟩
    · have HDB : Bx ((dgt b != 16) = true) := ⟨by simpa using hd⟩
      obtain ⟨D, hD⟩ : ∃ D : Int, D = (dgt b : Int) := ⟨_, rfl⟩
      have hD0 : 0 ≤ D ∧ D ≤ 15 := by omega
      have HDV : Bx (dgV b = D) := ⟨by unfold dgV; rw [if_neg hd, hD]⟩
      by_cases hbig : most < body.length + (16 * n + dgt b)
      · have HS : Bx (stp most ⟨2, n, body⟩ b = (⟨2, n, body⟩, 5)) := ⟨by rw [HST.out, if_neg h13, if_neg hd, if_pos hbig]⟩
        have g3 : decide ((body.length : Int) + (16 * (n : Int) + D) > (most : Int)) = true := by simp; omega
        clear hd hdl HST h13 hD hbig
        by_cases h0 : D = 0
        · have g2 : (D == 0) = true := by simpa using h0
          clear h0
          skip
          go_enter Tryz.func74, Tryz.ntmps74
          go_wp2_with fail
          refine (digit_any b _ hb).mono ?_
          rintro e w' ⟨rfl, rfl⟩
          rw [HDV.out, HDB.out]
          go_wp2
          go_quiet (fail)
          go_wp2
          go_ret
          exact ⟨ret_int (by rw [HS.out]), ⟨by rw [HS.out]; exact HC.out, _, by rw [HS.out]; exact HR.out.keep (fun _ _ => rfl) (Nat.le_refl _)⟩, (Kept.refl own _).drewN _⟩
        · have g2 : (D == 0) = false := by simpa using h0
          clear h0
          skip
          go_enter Tryz.func74, Tryz.ntmps74
          go_wp2_with fail
          refine (digit_any b _ hb).mono ?_
          rintro e w' ⟨rfl, rfl⟩
          rw [HDV.out, HDB.out]
          go_wp2
          go_quiet (fail)
          go_wp2
          go_ret
          exact ⟨ret_int (by rw [HS.out]), ⟨by rw [HS.out]; exact HC.out, _, by rw [HS.out]; exact HR.out.keep (fun _ _ => rfl) (Nat.le_refl _)⟩, (Kept.refl own _).drewN _⟩
      · have HS : Bx (stp most ⟨2, n, body⟩ b = (⟨2, 16 * n + dgt b, body⟩, 0)) := ⟨by rw [HST.out, if_neg h13, if_neg hd, if_neg hbig]⟩
        have HC2 : Bx (CI most ⟨2, 16 * n + dgt b, body⟩) := ⟨by have := (HC.out.stp (b := b) hb (by rw [HS.out])).1; rw [HS.out] at this; exact this⟩
        have HSZ : Bx (16 * (n : Int) + D = ((16 * n + dgt b : Nat) : Int)) := ⟨by omega⟩
        have g3 : decide ((body.length : Int) + (16 * (n : Int) + D) > (most : Int)) = false := by simp; omega
        clear hd hdl HST h13 hD hbig
        by_cases h0 : D = 0
        · have g2 : (D == 0) = true := by simpa using h0
          clear h0
          skip
          go_enter Tryz.func74, Tryz.ntmps74
          go_wp2_with fail
          refine (digit_any b _ hb).mono ?_
          rintro e w' ⟨rfl, rfl⟩
          rw [HDV.out, HDB.out]
          go_wp2
          go_quiet (fail)
          have HR1 : Bx (RdR (w.drewN nq) g own 2 (most : Int) (n : Int) body (.slice a body.length c)) := ⟨HR.out.keep (fun _ _ => rfl) (Nat.le_refl _)⟩
          have HK1 : Bx (Kept own w (w.drewN nq)) := ⟨(Kept.refl own _).drewN _⟩
          generalize w.drewN nq = w1 at HR1 HK1 ⊢
          have d0 := HR1.out.c0
          have d2 := HR1.out.c2
          have f0 := HR1.out.fr 0
          have f2 := HR1.out.fr 2
          go_wp2
          go_ret
          refine ⟨ret_int (by rw [HS.out]), ⟨by rw [HS.out]; exact HC2.out, .slice a body.length c, ?_⟩, (HK1.out.setCell (.inl HR.out.og) 2 _).setCell (.inl HR.out.og) 0 _⟩
          rw [HS.out]
          have hq := (HR1.out.setLeft (16 * (n : Int) + D)).setAt 2
          rw [HSZ.out] at hq ⊢
          exact hq
        · have g2 : (D == 0) = false := by simpa using h0
          clear h0
          skip
          go_enter Tryz.func74, Tryz.ntmps74
          go_wp2_with fail
          refine (digit_any b _ hb).mono ?_
          rintro e w' ⟨rfl, rfl⟩
          rw [HDV.out, HDB.out]
          go_wp2
          go_quiet (fail)
          have HR1 : Bx (RdR (w.drewN nq) g own 2 (most : Int) (n : Int) body (.slice a body.length c)) := ⟨HR.out.keep (fun _ _ => rfl) (Nat.le_refl _)⟩
          have HK1 : Bx (Kept own w (w.drewN nq)) := ⟨(Kept.refl own _).drewN _⟩
          generalize w.drewN nq = w1 at HR1 HK1 ⊢
          have d0 := HR1.out.c0
          have d2 := HR1.out.c2
          have f0 := HR1.out.fr 0
          have f2 := HR1.out.fr 2
          go_wp2
          go_ret
          refine ⟨ret_int (by rw [HS.out]), ⟨by rw [HS.out]; exact HC2.out, .slice a body.length c, ?_⟩, (HK1.out.setCell (.inl HR.out.og) 2 _).setCell (.inl HR.out.og) 0 _⟩
          rw [HS.out]
          have hq := (HR1.out.setLeft (16 * (n : Int) + D)).setAt 2
          rw [HSZ.out] at hq ⊢
          exact hq
set_option maxHeartbeats 1000000 in
theorem tbyte (g : Nat) (own : Nat → Prop) (most n : Nat) (body : List Int) (b : Int) (w : World) (h : Rd w g own most ⟨4, n, body⟩) (hb : 0 ≤ b ∧ b ≤ 255) :
    Calls Tryz.prog 75 #[.pointer (some ⟨g, 0, none⟩), .int .u8 b] w fun e w' => e = .returned (.tuple #[]) ∧ ∃ own', Rd w' g own' most (stp most ⟨4, n, body⟩ b).1 ∧ Did own w w' own' := by
  obtain ⟨hci, v, hR0⟩ := h
  have hcm := hci.m
  have hcb := hci.b
  have hcy := hci.y (by show 2 ≤ 4; decide) (by show 4 ≤ 4; decide)
  have HST : Bx (stp most ⟨4, n, body⟩ b = if n = 1 then (⟨5, 0, body ++ [b]⟩, 0) else (⟨4, n - 1, body ++ [b]⟩, 0)) := ⟨rfl⟩
  have HC2 : Bx (CI most (stp most ⟨4, n, body⟩ b).1) := ⟨(hci.stp hb (by rw [HST.out]; split <;> rfl)).1⟩
  simp only at hcb hcy
  obtain ⟨a, c, rfl, _⟩ := Bts.of_owns hR0.vr hR0.byt
  have c0 : w.cell? ⟨g, 0, none⟩ = some (.int .i64 4) := hR0.c0
  have c3 := hR0.c3
  have HR : Bx (RdR w g own 4 (most : Int) (n : Int) body (.slice a body.length c)) := ⟨hR0⟩
  have HV : Bx (w.ownsRow 0 5 1 (.slice a body.length c) body.length (bv body)) := ⟨hR0.vr⟩
  obtain ⟨i0, hi, hz0, hz1, hz2⟩ := info_parts Tryz.info5
  clear hR0 hci
  simp only at c3
  by_cases h1 : n = 1
  · have HS : Bx (stp most ⟨4, n, body⟩ b = (⟨5, 0, body ++ [b]⟩, 0)) := ⟨by rw [HST.out, if_pos h1]⟩
    have g1 : (((n : Int) - 1) == 0) = true := by simp; omega
    have HN : Bx (((n : Int) - 1) = 0) := ⟨by omega⟩
    clear h1 HST
    skip
    go_enter Tryz.func75, Tryz.ntmps75
    go_wp2_with (at_builtin; refine wpList_append_lies _ rfl (.tmp 8) (.tmp 10) 22 rfl 0 5 i0 (.int .u8 0) 1 1 Tryz.underlying22 hi hz0 hz1 hz2 rfl (by decide) _ body.length (bv body) rfl (HV.out.alloc _) ⟨w.heap.size, 0, none⟩ 1 1 [.int .u8 b] rfl rfl (World.news_of_block (heap_alloc_new w _)) (by simp [Value.oneCell']) (by decide) (by unfold maxLen; omega) (by omega) (Nat.zero_le _) _ rfl ?_; intro g4 cap4 w4 hown4 hgr4 hl4 hlt4; obtain ⟨hr4, hR4, hK4⟩ := HR.out.more hb rfl hown4 hgr4 hl4 (by simp) hlt4; have k0 : w4.cell? ⟨g, 0, none⟩ = some (.int .i64 4) := (by rw [cell_of_row w4 g 0 _ _ (0, 0) hr4]; rfl); have k2 : w4.cell? ⟨g, 2, none⟩ = some (.int .i64 (n : Int)) := (by rw [cell_of_row w4 g 2 _ _ (0, 0) hr4]; rfl); have k3 : w4.cell? ⟨g, 3, none⟩ = some (.slice a body.length c) := (by rw [cell_of_row w4 g 3 _ _ (0, 0) hr4]; rfl); have f0 : w4.frozen? ⟨g, 0, none⟩ = false := frozen_of_row _ _ 0 _ _ hr4; have f2 : w4.frozen? ⟨g, 2, none⟩ = false := frozen_of_row _ _ 2 _ _ hr4; have f3 : w4.frozen? ⟨g, 3, none⟩ = false := frozen_of_row _ _ 3 _ _ hr4; have HR4 := Bx.mk hR4; have HK4 := Bx.mk hK4; have HD4 : Bx (∀ W : World, w4.heap.size ≤ W.heap.size → ∀ k, (own k ∨ (w.heap.size ≤ k ∧ k < w4.heap.size)) → own k ∨ (w.heap.size ≤ k ∧ k < W.heap.size)) := ⟨fun W hW k hk => by (rcases hk with hk | hk; exact .inl hk; exact .inr ⟨hk.1, by omega⟩)⟩; clear hown4 hgr4 hl4 hlt4 hi hz0 hz1 hz2 hR4 hK4 hr4 c3 c0)
    go_end0
    refine ⟨rfl, fun k => own k ∨ (w.heap.size ≤ k ∧ k < w4.heap.size), ⟨HC2.out, .slice (some ⟨g4, 0, none⟩) (body.length + 1) cap4, ?_⟩, (HK4.out.setCell (.inl HR.out.og) 2 _).setCell (.inl HR.out.og) 0 _, fun k hk => HD4.out _ (by simp [World.setCell]) k hk⟩
    rw [HS.out]
    have hq := (HR4.out.setLeft ((n : Int) - 1)).setAt 5
    rw [HN.out] at hq ⊢
    exact hq
  · have HS : Bx (stp most ⟨4, n, body⟩ b = (⟨4, n - 1, body ++ [b]⟩, 0)) := ⟨by rw [HST.out, if_neg h1]⟩
    have g1 : (((n : Int) - 1) == 0) = false := by simp; omega
    have HN : Bx (((n : Int) - 1) = ((n - 1 : Nat) : Int)) := ⟨by omega⟩
    clear h1 HST
    skip
    go_enter Tryz.func75, Tryz.ntmps75
    go_wp2_with (at_builtin; refine wpList_append_lies _ rfl (.tmp 8) (.tmp 10) 22 rfl 0 5 i0 (.int .u8 0) 1 1 Tryz.underlying22 hi hz0 hz1 hz2 rfl (by decide) _ body.length (bv body) rfl (HV.out.alloc _) ⟨w.heap.size, 0, none⟩ 1 1 [.int .u8 b] rfl rfl (World.news_of_block (heap_alloc_new w _)) (by simp [Value.oneCell']) (by decide) (by unfold maxLen; omega) (by omega) (Nat.zero_le _) _ rfl ?_; intro g4 cap4 w4 hown4 hgr4 hl4 hlt4; obtain ⟨hr4, hR4, hK4⟩ := HR.out.more hb rfl hown4 hgr4 hl4 (by simp) hlt4; have k0 : w4.cell? ⟨g, 0, none⟩ = some (.int .i64 4) := (by rw [cell_of_row w4 g 0 _ _ (0, 0) hr4]; rfl); have k2 : w4.cell? ⟨g, 2, none⟩ = some (.int .i64 (n : Int)) := (by rw [cell_of_row w4 g 2 _ _ (0, 0) hr4]; rfl); have k3 : w4.cell? ⟨g, 3, none⟩ = some (.slice a body.length c) := (by rw [cell_of_row w4 g 3 _ _ (0, 0) hr4]; rfl); have f0 : w4.frozen? ⟨g, 0, none⟩ = false := frozen_of_row _ _ 0 _ _ hr4; have f2 : w4.frozen? ⟨g, 2, none⟩ = false := frozen_of_row _ _ 2 _ _ hr4; have f3 : w4.frozen? ⟨g, 3, none⟩ = false := frozen_of_row _ _ 3 _ _ hr4; have HR4 := Bx.mk hR4; have HK4 := Bx.mk hK4; have HD4 : Bx (∀ W : World, w4.heap.size ≤ W.heap.size → ∀ k, (own k ∨ (w.heap.size ≤ k ∧ k < w4.heap.size)) → own k ∨ (w.heap.size ≤ k ∧ k < W.heap.size)) := ⟨fun W hW k hk => by (rcases hk with hk | hk; exact .inl hk; exact .inr ⟨hk.1, by omega⟩)⟩; clear hown4 hgr4 hl4 hlt4 hi hz0 hz1 hz2 hR4 hK4 hr4 c3 c0)
    go_end0
    refine ⟨rfl, fun k => own k ∨ (w.heap.size ≤ k ∧ k < w4.heap.size), ⟨HC2.out, .slice (some ⟨g4, 0, none⟩) (body.length + 1) cap4, ?_⟩, HK4.out.setCell (.inl HR.out.og) 2 _, fun k hk => HD4.out _ (by simp [World.setCell]) k hk⟩
    rw [HS.out]
    have hq := HR4.out.setLeft ((n : Int) - 1)
    rw [HN.out] at hq ⊢
    exact hq
end Go.Proofs.YtpfijaojgeceeaaGreatDoor
namespace Go.Proofs.YtpfijaojgeceeaaGreatDoor
open Go.RowKit
set_option linter.unusedVariables false

set_option maxHeartbeats 1000000 in
theorem ctake_fix (g : Nat) (own : Nat → Prop) (most : Nat) (s : CS) (x : Int) (b : Int) (w : World) (h : Rd w g own most s) (hb : 0 ≤ b ∧ b ≤ 255) (hp : s.ph < 10) (h0 : s.ph ≠ 0) (h2 : s.ph ≠ 2) (h4 : s.ph ≠ 4) (hx : atN s.ph = x) (g1 : (x == 1) = false) (g2 : (x == 2) = false) (g4 : (x == 4) = false) :
    Calls Tryz.prog 59 #[.pointer (some ⟨g, 0, none⟩), .int .u8 b] w fun e w' => e = .returned (.int .i64 (stp most s b).2) ∧ ∃ own', Rd w' g own' most (stp most s b).1 ∧ Did own w w' own' := by
  have H := Bx.mk h
  obtain ⟨hci, v, hR⟩ := h
  have HST := Bx.mk (stp_fix most s b hp h0 h2 h4 hci)
  have c0 := hR.c0
  have f0 := hR.fr 0
  have HR := Bx.mk hR
  have HC := Bx.mk hci
  have HFX := Bx.mk (fixed_any s.ph w hp h0 h2 h4)
  rw [hx] at c0 HFX
  have hfb : 0 ≤ fxB s.ph ∧ fxB s.ph ≤ 255 := by unfold fxB; split <;> decide
  clear hR hci h0 h2 h4 hx
  by_cases he : b = fxB s.ph
  · have HS : Bx (stp most s b = (⟨fxN s.ph, s.n, s.body⟩, 0)) := ⟨by rw [HST.out, if_pos he]⟩
    have HC2 : Bx (CI most ⟨fxN s.ph, s.n, s.body⟩) := ⟨by have := (HC.out.stp (b := b) hb (by rw [HS.out])).1; rw [HS.out] at this; exact this⟩
    generalize fxB s.ph = y at he hfb HFX
    have hne : (b != y) = false := by simpa using he
    obtain ⟨z, HZ⟩ : ∃ z, Bx (z = atN (fxN s.ph)) := ⟨_, ⟨rfl⟩⟩
    rw [← HZ.out] at HFX
    clear he HST
    go_enter Tryz.func59, Tryz.ntmps59
    go_wp2_with fail
    refine HFX.out.mono ?_
    rintro e w' ⟨rfl, rfl⟩
    go_wp2
    go_ret
    refine ⟨ret_int (by rw [HS.out]), own, ⟨by rw [HS.out]; exact HC2.out, v, ?_⟩, Did.same (HR.out.kset 0 _)⟩
    rw [HS.out, HZ.out]
    exact HR.out.setAt _
  · have HS : Bx (stp most s b = (s, 4)) := ⟨by rw [HST.out, if_neg he]⟩
    generalize fxB s.ph = y at he hfb HFX
    have hne : (b != y) = true := by simpa using he
    obtain ⟨z, HZ⟩ : ∃ z, Bx (z = atN (fxN s.ph)) := ⟨_, ⟨rfl⟩⟩
    rw [← HZ.out] at HFX
    clear he HST
    go_enter Tryz.func59, Tryz.ntmps59
    go_wp2_with fail
    refine HFX.out.mono ?_
    rintro e w' ⟨rfl, rfl⟩
    go_wp2
    go_ret
    exact ⟨ret_int (by rw [HS.out]), own, by rw [HS.out]; exact H.out, Did.same (Kept.refl _ _)⟩
set_option maxHeartbeats 1000000 in
theorem ctake_any (g : Nat) (own : Nat → Prop) (most : Nat) (s : CS) (b : Int) (w : World) (h : Rd w g own most s) (hb : 0 ≤ b ∧ b ≤ 255) (hp : s.ph < 10) :
    Calls Tryz.prog 59 #[.pointer (some ⟨g, 0, none⟩), .int .u8 b] w fun e w' => e = .returned (.int .i64 (stp most s b).2) ∧ ∃ own', Rd w' g own' most (stp most s b).1 ∧ Did own w w' own' := by
  obtain ⟨ph, n, body⟩ := s
  have H := Bx.mk h
  match ph, hp with
  | 0, _ =>
    obtain rfl : n = 0 := h.1.z (by show 0 ≤ 10; decide) (by show ¬ (2 ≤ 0 ∧ 0 ≤ 4); decide)
    obtain ⟨_, v, hR⟩ := h
    have c0 : w.cell? ⟨g, 0, none⟩ = some (.int .i64 1) := hR.c0
    clear hR
    skip
    go_enter Tryz.func59, Tryz.ntmps59
    go_wp2_with fail
    refine (tsz0 g own most body b _ H.out hb).mono ?_
    rintro e w1 ⟨rfl, hr1, hk1⟩
    have HR1 := Bx.mk hr1
    have HK1 := Bx.mk hk1
    clear hr1 hk1 c0
    go_wp2
    go_ret
    exact ⟨rfl, own, HR1.out, Did.same HK1.out⟩
  | 2, _ =>
    obtain ⟨_, v, hR⟩ := h
    have c0 : w.cell? ⟨g, 0, none⟩ = some (.int .i64 2) := hR.c0
    clear hR
    skip
    go_enter Tryz.func59, Tryz.ntmps59
    go_wp2_with fail
    refine (tsz2 g own most n body b _ H.out hb).mono ?_
    rintro e w1 ⟨rfl, hr1, hk1⟩
    have HR1 := Bx.mk hr1
    have HK1 := Bx.mk hk1
    clear hr1 hk1 c0
    go_wp2
    go_ret
    exact ⟨rfl, own, HR1.out, Did.same HK1.out⟩
  | 4, _ =>
    have HE : Bx ((stp most ⟨4, n, body⟩ b).2 = 0) := ⟨by show (if n = 1 then _ else _ : CS × Int).2 = 0; split <;> rfl⟩
    obtain ⟨_, v, hR⟩ := h
    have c0 : w.cell? ⟨g, 0, none⟩ = some (.int .i64 4) := hR.c0
    clear hR
    go_enter Tryz.func59, Tryz.ntmps59
    go_wp2_with fail
    refine (tbyte g own most n body b _ H.out hb).mono ?_
    rintro e w1 ⟨rfl, own1, hr1, hk1⟩
    have HR1 := Bx.mk hr1
    have HK1 := Bx.mk hk1
    clear hr1 hk1 c0
    go_wp2
    go_ret
    exact ⟨ret_int HE.out.symm, own1, HR1.out, HK1.out⟩
  | 1, hp => exact ctake_fix g own most _ 7 b w h hb hp (by show 1 ≠ 0; decide) (by show 1 ≠ 2; decide) (by show 1 ≠ 4; decide) rfl rfl rfl rfl
  | 3, hp => exact ctake_fix g own most _ 3 b w h hb hp (by show 3 ≠ 0; decide) (by show 3 ≠ 2; decide) (by show 3 ≠ 4; decide) rfl rfl rfl rfl
  | 5, hp => exact ctake_fix g own most _ 5 b w h hb hp (by show 5 ≠ 0; decide) (by show 5 ≠ 2; decide) (by show 5 ≠ 4; decide) rfl rfl rfl rfl
  | 6, hp => exact ctake_fix g own most _ 6 b w h hb hp (by show 6 ≠ 0; decide) (by show 6 ≠ 2; decide) (by show 6 ≠ 4; decide) rfl rfl rfl rfl
  | 7, hp => exact ctake_fix g own most _ 8 b w h hb hp (by show 7 ≠ 0; decide) (by show 7 ≠ 2; decide) (by show 7 ≠ 4; decide) rfl rfl rfl rfl
  | 8, hp => exact ctake_fix g own most _ 9 b w h hb hp (by show 8 ≠ 0; decide) (by show 8 ≠ 2; decide) (by show 8 ≠ 4; decide) rfl rfl rfl rfl
  | 9, hp => exact ctake_fix g own most _ 10 b w h hb hp (by show 9 ≠ 0; decide) (by show 9 ≠ 2; decide) (by show 9 ≠ 4; decide) rfl rfl rfl rfl
  | (k + 10), h => exact absurd h (by simp)
set_option maxRecDepth 100000 in
theorem atN_11 (p : Nat) : (atN p == 11) = decide (p = 10) := by
  unfold atN; rw [Bool.eq_iff_iff]; simp only [beq_iff_eq, decide_eq_true_eq]
  split
  · omega
  · split
    · omega
    · split <;> omega
set_option maxRecDepth 100000 in
theorem atN_12 (p : Nat) : (atN p == 12) = decide (p = 11) := by
  unfold atN; rw [Bool.eq_iff_iff]; simp only [beq_iff_eq, decide_eq_true_eq]
  split
  · omega
  · split
    · omega
    · split <;> omega
set_option maxHeartbeats 1000000 in
theorem cput_any (g : Nat) (own : Nat → Prop) (most : Nat) (s : CS) (b : Int) (w : World) (h : Rd w g own most s) (hb : 0 ≤ b ∧ b ≤ 255) :
    Calls Tryz.prog 44 #[.pointer (some ⟨g, 0, none⟩), .int .u8 b] w fun e w' => e = .returned (.tuple #[.bool (ptD most s b), .int .i64 (stp most s b).2]) ∧ ∃ own', Rd w' g own' most (ptS most s b) ∧ Did own w w' own' := by
  have H := Bx.mk h
  obtain ⟨hci, v, hR⟩ := h
  have HC := Bx.mk hci
  have c0 := hR.c0
  have e11 := atN_11 s.ph
  have e12 := atN_12 s.ph
  generalize hx : atN s.ph = x at c0 e11 e12
  have hp := hci.p
  clear hR hx hci
  by_cases h10 : 10 ≤ s.ph
  · have HS : Bx (stp most s b = (s, 20)) := ⟨stp_over b h10⟩
    have HP : Bx (ptS most s b = s) := ⟨ptS_over b h10⟩
    have HD : Bx (ptD most s b = false) := ⟨by unfold ptD; simp; omega⟩
    by_cases h11 : s.ph = 10
    · rw [decide_eq_true h11] at e11
      clear e12 h10 h11 hp
      go_enter Tryz.func44, Tryz.ntmps44
      go_wp2_with fail
      refine (cmade_yes g own most s _ H.out).mono ?_
      rintro e w' ⟨rfl, rfl⟩
      go_wp2
      go_ret2
      exact ⟨by rw [HS.out, HD.out]; rfl, own, by rw [HP.out]; exact H.out, Did.same (Kept.refl _ _)⟩
    · rw [decide_eq_false h11] at e11
      rw [decide_eq_true (show s.ph = 11 by omega)] at e12
      clear h10 h11 hp
      go_enter Tryz.func44, Tryz.ntmps44
      go_wp2_with fail
      refine (cmade_yes g own most s _ H.out).mono ?_
      rintro e w' ⟨rfl, rfl⟩
      go_wp2
      go_ret2
      exact ⟨by rw [HS.out, HD.out]; rfl, own, by rw [HP.out]; exact H.out, Did.same (Kept.refl _ _)⟩
  · rw [decide_eq_false (show ¬ s.ph = 10 by omega)] at e11
    rw [decide_eq_false (show ¬ s.ph = 11 by omega)] at e12
    have hlt : s.ph < 10 := by omega
    have HTK := Bx.mk (ctake_any g own most s b w H.out hb hlt)
    by_cases he : (stp most s b).2 = 0
    · have HP : Bx (ptS most s b = (stp most s b).1) := ⟨ptS_ok h10 he⟩
      have HD : Bx (ptD most s b = decide ((stp most s b).1.ph = 10)) := ⟨by unfold ptD; rw [Bool.eq_iff_iff]; simp [he, hlt]⟩
      have HE := Bx.mk he
      rw [he] at HTK
      clear h10 hp he hlt
      go_enter Tryz.func44, Tryz.ntmps44
      go_wp2_with fail
      refine (cmade_yes g own most s _ H.out).mono ?_
      rintro e w' ⟨rfl, rfl⟩
      go_wp2_with fail
      refine HTK.out.mono ?_
      rintro e w1 ⟨rfl, own1, hr1, hk1⟩
      have HR1 := Bx.mk hr1
      have HK1 := Bx.mk hk1
      obtain ⟨_, v1, hq⟩ := hr1
      have d0 := hq.c0
      have e13 := atN_11 (stp most s b).1.ph
      rw [← HD.out] at e13
      generalize atN (stp most s b).1.ph = x1 at d0 e13
      have HE13 := Bx.mk e13
      clear hq hk1 c0 e11 e12 e13
      go_wp2
      go_ret2
      exact ⟨by rw [HE.out, ← HE13.out]; rfl, own1, by rw [HP.out]; exact HR1.out, HK1.out⟩
    · have HP : Bx (ptS most s b = ⟨11, s.n, s.body⟩) := ⟨ptS_err h10 he⟩
      have HS1 : Bx ((stp most s b).1 = s) := ⟨stp_err he⟩
      have HD : Bx (ptD most s b = false) := ⟨by unfold ptD; simp [he]⟩
      generalize hE : (stp most s b).2 = E at he HTK
      have HE : Bx ((stp most s b).2 = E) := ⟨hE⟩
      have hne : (E != 0) = true := by simpa using he
      clear h10 hp he hlt hE
      go_enter Tryz.func44, Tryz.ntmps44
      go_wp2_with fail
      refine (cmade_yes g own most s _ H.out).mono ?_
      rintro e w' ⟨rfl, rfl⟩
      go_wp2_with fail
      refine HTK.out.mono ?_
      rintro e w1 ⟨rfl, own1, hr1, hk1⟩
      rw [HS1.out] at hr1
      have HR1 := Bx.mk hr1
      have HK1 := Bx.mk hk1
      obtain ⟨_, v1, hq⟩ := hr1
      have d0 := hq.c0
      have f0 := hq.fr 0
      have HQ := Bx.mk hq
      clear hq hk1 c0 e11 e12
      go_wp2
      go_ret2
      exact ⟨by rw [HD.out]; rfl, own1, by rw [HP.out]; exact ⟨HC.out.fail, v1, HQ.out.setAt 12⟩, HK1.out.trans (Did.same (HQ.out.kset 0 _))⟩
end Go.Proofs.YtpfijaojgeceeaaGreatDoor
