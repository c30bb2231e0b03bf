/- What Put takes. -/
import Derived.Test.YtdameoejigpnhabGreatDoorWri
namespace Go.Proofs.YtdameoejigpnhabGreatDoor
open Go.RowKit
set_option linter.unusedVariables false

variable {g : Nat} {own : Nat → Prop}
set_option maxRecDepth 100000 in
theorem wat_own {w : World} : ∀ {r : WR}, Wat w g own r → own g ∧ ∀ k, own k → k < w.heap.size
  | .ok (.head h lines cnt cur), ⟨line, LV, cr, _, _, hm⟩ => ⟨hm.og, hm.lt⟩
  | .ok (.fix h left body), ⟨H, _, _, _, CV, hB⟩ => ⟨hB.og, hB.lt⟩
  | .ok (.chk h c), ⟨H, _, _, g2, own2, hB, _⟩ => ⟨hB.og, hB.lt⟩
  | .ok (.done x), ⟨H, h, _, hh⟩ => by
    rcases hh with ⟨body, _, _, CV, hB⟩ | ⟨c, _, g2, own2, hB, _⟩
    · exact ⟨hB.og, hB.lt⟩
    · exact ⟨hB.og, hB.lt⟩
  | .bad, hB => ⟨Bk.og hB, Bk.lt hB⟩
def rowBad : Array Value := #[.int .i64 4, .int .i64 0, .slice none 0 0, .bool false, .string ⟨#[]⟩, .string ⟨#[]⟩, .string ⟨#[]⟩, .slice none 0 0, .int .i64 0, .bool false, .int .i64 0, .int .i64 0, .int .i64 0, .slice none 0 0, .pointer none]
set_option maxRecDepth 100000 in
theorem wat_cell {w : World} : ∀ {r : WR}, Wat w g own r → ∃ x, w.cell? ⟨g, 0, none⟩ = some (.int .i64 x) ∧ x ≠ 0 ∧ (r.over = true → x = 3 ∨ x = 4)
  | .ok (.head h lines cnt cur), ⟨line, LV, cr, _, _, hm⟩ => ⟨1, hm.c0, by decide, fun h => by cases h⟩
  | .ok (.fix h left body), ⟨H, _, _, _, CV, hB⟩ => ⟨2, hB.cell 0, by decide, fun h => by cases h⟩
  | .ok (.chk h c), ⟨H, _, _, g2, own2, hB, _⟩ => ⟨2, hB.cell 0, by decide, fun h => by cases h⟩
  | .ok (.done x), ⟨H, h, _, hh⟩ => by
    rcases hh with ⟨body, _, _, CV, hB⟩ | ⟨c, _, g2, own2, hB, _⟩
    · exact ⟨3, hB.cell 0, by decide, fun _ => .inl rfl⟩
    · exact ⟨3, hB.cell 0, by decide, fun _ => .inl rfl⟩
  | .bad, hB => ⟨4, Bk.cell hB 0, by decide, fun _ => .inr rfl⟩
set_option maxRecDepth 100000 in
theorem wat_at {w : World} : ∀ {s : WS}, Wat w g own (.ok s) → ∃ x, w.cell? ⟨g, 0, none⟩ = some (.int .i64 x) ∧ (x == 3) = s.over
  | .head h lines cnt cur, ⟨line, LV, cr, _, _, hm⟩ => ⟨1, hm.c0, rfl⟩
  | .fix h left body, ⟨H, _, _, _, CV, hB⟩ => ⟨2, hB.cell 0, rfl⟩
  | .chk h c, ⟨H, _, _, g2, own2, hB, _⟩ => ⟨2, hB.cell 0, rfl⟩
  | .done x, ⟨H, h, _, hh⟩ => by
    rcases hh with ⟨body, _, _, CV, hB⟩ | ⟨c, _, g2, own2, hB, _⟩
    · exact ⟨3, hB.cell 0, rfl⟩
    · exact ⟨3, hB.cell 0, rfl⟩
set_option maxRecDepth 100000 in
set_option maxHeartbeats 1000000 in
theorem wput_over (r : WR) (b : Int) (w : World) (h : Wat w g own r) (ho : r.over = true) :
    Calls Tryz.prog 18 #[.pointer (some ⟨g, 0, none⟩), .int .u8 b] w fun e w' => e = .returned (.tuple #[.bool false, .int .i64 20]) ∧ w' = w := by
  obtain ⟨x, c0, hx, h34⟩ := wat_cell h
  have h34 := h34 ho
  have C1 : Hid (Calls Tryz.prog 30 #[.pointer (some ⟨g, 0, none⟩)] w fun e w' => e = .returned (.bool true) ∧ w = w') := (wmade_yes x w c0 hx).mono fun e w' h => ⟨h.1, h.2.symm⟩
  clear h ho hx
  rcases h34 with rfl | rfl
  · go_enter Tryz.func18, Tryz.ntmps18
    go_wp2_with fail
    refine C1.out.mono ?_
    rintro e w1 ⟨rfl, rfl⟩
    go_wp2
    go_ret2
    exact ⟨rfl, rfl⟩
  · go_enter Tryz.func18, Tryz.ntmps18
    go_wp2_with fail
    refine C1.out.mono ?_
    rintro e w1 ⟨rfl, rfl⟩
    go_wp2
    go_ret2
    exact ⟨rfl, rfl⟩
set_option maxRecDepth 100000 in
set_option maxHeartbeats 2000000 in
theorem wput_head (B : Nat) (h : HD) (lines cnt : Nat) (line : List Int) (LV : Value) (cr : Bool) (b : Int) (w : World) (hm : Hm w g own (hmOf h lines cnt line LV cr)) (hi : HI h lines cnt line cr) (hb : 0 ≤ b ∧ b ≤ 255) (he : Env B w) (hB : B ≤ w.heap.size) (hOw : ∀ k, own k → B ≤ k) :
    Calls Tryz.prog 18 #[.pointer (some ⟨g, 0, none⟩), .int .u8 b] w fun e w' => e = .returned (.tuple #[.bool (puD wp0 (.ok (.head h lines cnt (crL line cr))) b), .int .i64 (puE wp0 (.ok (.head h lines cnt (crL line cr))) b)]) ∧ ∃ own', Wat w' g own' (puS wp0 (.ok (.head h lines cnt (crL line cr))) b) ∧ Did own w w' own' := by
  have c0 := hm.c0
  have C1 : Hid (Calls Tryz.prog 30 #[.pointer (some ⟨g, 0, none⟩)] w fun e w' => e = .returned (.bool true) ∧ w = w') := (wmade_yes 1 w c0 (by decide)).mono fun e w' h => ⟨h.1, h.2.symm⟩
  have C2 : Hid (Calls Tryz.prog 31 #[.pointer (some ⟨g, 1, none⟩), .int .u8 b] w fun e w' => e = .returned (.tuple #[.bool (hend lines cnt line cr b), .int .i64 (wst wp0 (.head h lines cnt (crL line cr)) b).2]) ∧ HTP g own h lines cnt line cr b w w') := whtake_any B g own h lines cnt line LV cr b w hm hi hb he hB hOw
  have HN : Bx (h.n ≤ 2048) := ⟨hi.n⟩
  have hmf : ∀ (fn : Fn) (first cap : Array Value) (w : World), (Instr.makeFunc fn first cap).run Tryz.prog w = .ok (.func fn first cap) w := fun _ _ _ _ => rfl
  clear hm hi he hB hOw
  unfold HTP at C2
  have PS : puS wp0 (.ok (.head h lines cnt (crL line cr))) b = if (wst wp0 (.head h lines cnt (crL line cr)) b).2 ≠ 0 then .bad else .ok (wst wp0 (.head h lines cnt (crL line cr)) b).1 := rfl
  have PE : puE wp0 (.ok (.head h lines cnt (crL line cr))) b = (wst wp0 (.head h lines cnt (crL line cr)) b).2 := rfl
  have PD : puD wp0 (.ok (.head h lines cnt (crL line cr))) b = decide ((wst wp0 (.head h lines cnt (crL line cr)) b).2 = 0 ∧ (wst wp0 (.head h lines cnt (crL line cr)) b).1.over = true) := by
    exact decide_eq_decide.2 ⟨fun h => h.2, fun h => ⟨rfl, h⟩⟩
  have HPS := Bx.mk PS
  have HPE := Bx.mk PE
  have HPD := Bx.mk PD
  clear PS PE PD
  generalize puS wp0 (.ok (.head h lines cnt (crL line cr))) b = RS at HPS ⊢
  generalize puE wp0 (.ok (.head h lines cnt (crL line cr))) b = RE at HPE ⊢
  generalize puD wp0 (.ok (.head h lines cnt (crL line cr))) b = RD at HPD ⊢
  generalize wst wp0 (.head h lines cnt (crL line cr)) b = ST at *
  obtain ⟨SS, E⟩ := ST
  generalize hend lines cnt line cr b = D at C2
  simp only at C2
  go_enter Tryz.func18, Tryz.ntmps18
  go_wp2_with fail
  refine C1.out.mono ?_
  rintro e w0 ⟨rfl, rfl⟩
  go_wp2_with fail
  refine C2.out.mono ?_
  rintro e w1 ⟨rfl, own1, hd1, ⟨H1, hm1⟩, hk1, hk2⟩
  have HD1 := Bx.mk hd1
  have HM1 := Bx.mk hm1
  have HK1 := Bx.mk hk1
  have HK2 := Bx.mk hk2
  clear hd1 hm1 hk1 hk2 c0 C1 C2
  by_cases h0 : E = 0
  · subst h0
    cases D with
    | true =>
      obtain ⟨hs1, LV2, hm2⟩ := HK2.out rfl
      have HM2 := Bx.mk hm2
      have HS1 : Bx (SS = bgQ h) := ⟨(Prod.mk.inj hs1).1⟩
      clear hs1 hm2 HK1 HK2
      go_wp2_with fail
      refine (wgo_head h lines (cnt + 1) LV2 _ HM2.out HN.out).mono ?_
      rintro e w2 ⟨rfl, own2, hw2, hd2⟩
      rw [← HS1.out] at hw2
      have HDD2 := Bx.mk hd2
      obtain ⟨x, k0, k1⟩ := wat_at hw2
      have HW2 := Bx.mk hw2
      generalize hov : SS.over = OV at k1
      have HOV := Bx.mk hov
      clear hw2 hd2 hov
      go_wp2
      go_ret2
      refine ⟨?_, own2, by rw [HPS.out]; exact HW2.out, HD1.out.trans HDD2.out⟩
      rw [HPE.out, HPD.out, HOV.out]
      cases OV <;> rfl
    | false =>
      obtain ⟨h2, l2, c2, line2, LV2, cr2, hs1, hi2, hm2⟩ := HK1.out rfl rfl
      have hw2 : Wat w1 g own1 (.ok SS) := by rw [hs1]; exact ⟨line2, LV2, cr2, rfl, hi2, hm2⟩
      have d0 := hm2.c0
      have HW2 := Bx.mk hw2
      have HOV : Bx (SS.over = false) := ⟨by rw [hs1]; rfl⟩
      clear hs1 hi2 hm2 hw2 HK1 HK2
      go_wp2
      go_ret2
      exact ⟨by rw [HPE.out, HPD.out, HOV.out]; rfl, own1, by rw [HPS.out]; exact HW2.out, HD1.out⟩
  · have hne : (E != 0) = true := by simpa using h0
    have HDE : Bx (decide (E = 0 ∧ SS.over = true) = false) := ⟨by simp [h0]⟩
    have HE0 := Bx.mk h0
    clear h0
    obtain ⟨hb1, hb2, hb3⟩ := Bk.store HM1.out rowBad rfl
    have HB1 := Bx.mk hb1
    have HB2 := Bx.mk hb2
    have HB3 := Bx.mk hb3
    clear hb1 hb2 hb3
    go_wp2_with (refine wpList_store_mid rfl 52 (.tmp 47) (.tmp 46) rfl g 0 rowBad rfl rfl HB3.out reader_info (by simp [Value.oneCell', rowBad]) ?_)
    go_ret2
    exact ⟨by rw [HPE.out, HPD.out, HDE.out]; rfl, own1, by rw [HPS.out, if_pos HE0.out]; exact HB1.out, HD1.out.trans (Did.same HB2.out)⟩
set_option maxRecDepth 100000 in
set_option maxHeartbeats 2000000 in
theorem wput_fix (h : HD) (left : Nat) (body : List Int) (b : Int) (w : World) (hw : Wat w g own (.ok (.fix h left body))) (hb : 0 ≤ b ∧ b ≤ 255) :
    Calls Tryz.prog 18 #[.pointer (some ⟨g, 0, none⟩), .int .u8 b] w fun e w' => e = .returned (.tuple #[.bool (puD wp0 (.ok (.fix h left body)) b), .int .i64 (puE wp0 (.ok (.fix h left body)) b)]) ∧ ∃ own', Wat w' g own' (puS wp0 (.ok (.fix h left body)) b) ∧ Did own w w' own' := by
  obtain ⟨H, hx, h1, h2, hf⟩ := hw
  have c0 : w.cell? ⟨g, 0, none⟩ = some (.int .i64 2) := by obtain ⟨CV, hB⟩ := hf; exact hB.cell 0
  have C1 : Hid (Calls Tryz.prog 30 #[.pointer (some ⟨g, 0, none⟩)] w fun e w' => e = .returned (.bool true) ∧ w = w') := (wmade_yes 2 w c0 (by decide)).mono fun e w' h => ⟨h.1, h.2.symm⟩
  have C2 : Hid (Calls Tryz.prog 32 #[.pointer (some ⟨g, 12, none⟩), .int .u8 b] w fun e w' => e = .returned (.tuple #[.bool (decide (left = 1)), .int .i64 0]) ∧ ∃ own', FixM w' g own' 2 H ((left - 1 : Nat) : Int) (body ++ [b]) ∧ Did own w w' own') := wbfix_any H left body b w hf h1 h2 hb
  have hmf : ∀ (fn : Fn) (first cap : Array Value) (w : World), (Instr.makeFunc fn first cap).run Tryz.prog w = .ok (.func fn first cap) w := fun _ _ _ _ => rfl
  have HX := Bx.mk hx
  have HLE : Bx (1 ≤ left ∧ body.length + left ≤ 2048) := ⟨h1, h2⟩
  clear hf hx h1 h2
  by_cases hl : left = 1
  · have HST : Bx (wst wp0 (.fix h left body) b = (.done (h.x (body ++ [b])), 0)) := ⟨by show (if left = 1 then _ else _) = _; rw [if_pos hl]⟩
    have HL1 := Bx.mk hl
    rw [decide_eq_true hl] at C2
    clear hl
    go_enter Tryz.func18, Tryz.ntmps18
    go_wp2_with fail
    refine C1.out.mono ?_
    rintro e w0 ⟨rfl, rfl⟩
    go_wp2_with fail
    refine C2.out.mono ?_
    rintro e w1 ⟨rfl, own1, ⟨CV, hB1⟩, hd1⟩
    have HB1 := Bx.mk hB1
    have HD1 := Bx.mk hd1
    have d0 : w1.cell? ⟨g, 0, none⟩ = some (.int .i64 2) := hB1.cell 0
    have f0 := hB1.fr 0
    have C3 : Hid (Calls Tryz.prog 33 #[.pointer (some ⟨g, 0, none⟩)] w1 fun e w' => e = .returned (.tuple #[]) ∧ w' = w1.setCell ⟨g, 0, none⟩ (.int .i64 3)) := wgo_body w1 d0 f0
    have k0 : (w1.setCell ⟨g, 0, none⟩ (.int .i64 3)).cell? ⟨g, 0, none⟩ = some (.int .i64 3) := (hB1.set 0 (.int .i64 3)).cell 0
    clear hB1 hd1 c0 C1 C2 d0
    go_wp2_with fail
    refine C3.out.mono ?_
    rintro e w2 ⟨rfl, rfl⟩
    go_wp2
    go_ret2
    have h9 : ((left - 1 : Nat) : Int) = 0 := by rw [HL1.out]; rfl
    refine ⟨by unfold puD puE; simp only [HST.out]; rfl, own1, ?_, HD1.out.trans (Did.same (HB1.out.kset _ _))⟩
    have h8 : puS wp0 (.ok (.fix h left body)) b = .ok (.done (h.x (body ++ [b]))) := by unfold puS; simp only [HST.out]; rfl
    rw [h8]
    have h7 := HB1.out.set 0 (.int .i64 3)
    rw [h9] at h7
    exact ⟨H, h, HX.out, .inl ⟨body ++ [b], rfl, by have := HLE.out; simp; omega, CV, h7⟩⟩
  · have HST : Bx (wst wp0 (.fix h left body) b = (.fix h (left - 1) (body ++ [b]), 0)) := ⟨by show (if left = 1 then _ else _) = _; rw [if_neg hl]⟩
    have HL1 := Bx.mk hl
    rw [decide_eq_false hl] at C2
    clear hl
    go_enter Tryz.func18, Tryz.ntmps18
    go_wp2_with fail
    refine C1.out.mono ?_
    rintro e w0 ⟨rfl, rfl⟩
    go_wp2_with fail
    refine C2.out.mono ?_
    rintro e w1 ⟨rfl, own1, ⟨CV, hB1⟩, hd1⟩
    have HB1 := Bx.mk hB1
    have HD1 := Bx.mk hd1
    have d0 : w1.cell? ⟨g, 0, none⟩ = some (.int .i64 2) := hB1.cell 0
    clear hB1 hd1 c0 C1 C2
    go_wp2
    go_ret2
    refine ⟨by unfold puD puE; simp only [HST.out]; rfl, own1, ?_, HD1.out⟩
    have h8 : puS wp0 (.ok (.fix h left body)) b = .ok (.fix h (left - 1) (body ++ [b])) := by unfold puS; simp only [HST.out]; rfl
    rw [h8]
    have h7 := HLE.out
    have h6 := HL1.out
    exact ⟨H, HX.out, by omega, by simp; omega, CV, HB1.out⟩
set_option maxRecDepth 100000 in
set_option maxHeartbeats 2000000 in
theorem wput_chk (h : HD) (c : CS) (b : Int) (w : World) (hw : Wat w g own (.ok (.chk h c))) (hb : 0 ≤ b ∧ b ≤ 255) :
    Calls Tryz.prog 18 #[.pointer (some ⟨g, 0, none⟩), .int .u8 b] w fun e w' => e = .returned (.tuple #[.bool (puD wp0 (.ok (.chk h c)) b), .int .i64 (puE wp0 (.ok (.chk h c)) b)]) ∧ ∃ own', Wat w' g own' (puS wp0 (.ok (.chk h c)) b) ∧ Did own w w' own' := by
  obtain ⟨H, hx, h1, hf⟩ := hw
  have c0 : w.cell? ⟨g, 0, none⟩ = some (.int .i64 2) := by obtain ⟨g2, own2, hB, _⟩ := hf; exact hB.cell 0
  have C1 : Hid (Calls Tryz.prog 30 #[.pointer (some ⟨g, 0, none⟩)] w fun e w' => e = .returned (.bool true) ∧ w = w') := (wmade_yes 2 w c0 (by decide)).mono fun e w' h => ⟨h.1, h.2.symm⟩
  have C2 : Hid (Calls Tryz.prog 32 #[.pointer (some ⟨g, 12, none⟩), .int .u8 b] w fun e w' => e = .returned (.tuple #[.bool (ptD 2048 c b), .int .i64 (stp 2048 c b).2]) ∧ ∃ own', ChkM w' g own' 2 H (ptS 2048 c b) ∧ Did own w w' own') := wbchk_any H c b w hf hb
  have hmf : ∀ (fn : Fn) (first cap : Array Value) (w : World), (Instr.makeFunc fn first cap).run Tryz.prog w = .ok (.func fn first cap) w := fun _ _ _ _ => rfl
  have HX := Bx.mk hx
  have HCI : Bx (∀ g2 own2, Rd w g2 own2 2048 c → (stp 2048 c b).2 = 0 → (stp 2048 c b).1.ph ≤ 10) := ⟨fun g2 own2 hR h0 => (hR.1.stp hb h0).2⟩
  have HCP : Bx ((stp 2048 c b).2 = 0 → (stp 2048 c b).1.ph ≤ 10) := ⟨fun h0 => by obtain ⟨g2, own2, _, hR, _⟩ := hf; exact HCI.out g2 own2 hR h0⟩
  clear hf hx HCI
  have hp : ¬ 10 ≤ c.ph := by omega
  by_cases h0 : (stp 2048 c b).2 = 0
  · have HSP : Bx (ptS 2048 c b = (stp 2048 c b).1) := ⟨ptS_ok hp h0⟩
    rw [HSP.out, h0] at C2
    by_cases h10 : (stp 2048 c b).1.ph = 10
    · have HST : Bx (wst wp0 (.chk h c) b = (.done (h.x (stp 2048 c b).1.body), 0)) := ⟨by show (if (stp 2048 c b).2 ≠ 0 then _ else if _ then _ else _) = _; rw [if_neg (by rw [h0]; simp), if_pos h10]⟩
      have hD : ptD 2048 c b = true := by unfold ptD; simp [h0, h10, h1]
      rw [hD] at C2
      generalize (stp 2048 c b).1 = c2 at *
      clear h0 h10 hD hp h1
      go_enter Tryz.func18, Tryz.ntmps18
      go_wp2_with fail
      refine C1.out.mono ?_
      rintro e w0 ⟨rfl, rfl⟩
      go_wp2_with fail
      refine C2.out.mono ?_
      rintro e w1 ⟨rfl, own1, ⟨g2, own2, hB1, hR1, hs1⟩, hd1⟩
      have HB1 := Bx.mk hB1
      have HR1 := Bx.mk hR1
      have HS1 := Bx.mk hs1
      have HD1 := Bx.mk hd1
      have d0 : w1.cell? ⟨g, 0, none⟩ = some (.int .i64 2) := hB1.cell 0
      have f0 := hB1.fr 0
      have C3 : Hid (Calls Tryz.prog 33 #[.pointer (some ⟨g, 0, none⟩)] w1 fun e w' => e = .returned (.tuple #[]) ∧ w' = w1.setCell ⟨g, 0, none⟩ (.int .i64 3)) := wgo_body w1 d0 f0
      have k0 : (w1.setCell ⟨g, 0, none⟩ (.int .i64 3)).cell? ⟨g, 0, none⟩ = some (.int .i64 3) := (hB1.set 0 (.int .i64 3)).cell 0
      clear hB1 hR1 hs1 hd1 c0 C1 C2 d0
      go_wp2_with fail
      refine C3.out.mono ?_
      rintro e w2 ⟨rfl, rfl⟩
      go_wp2
      go_ret2
      refine ⟨by unfold puD puE; simp only [HST.out]; rfl, own1, ?_, HD1.out.trans (Did.same (HB1.out.kset _ _))⟩
      have h8 : puS wp0 (.ok (.chk h c)) b = .ok (.done (h.x c2.body)) := by unfold puS; simp only [HST.out]; rfl
      rw [h8]
      exact ⟨H, h, HX.out, .inr ⟨c2, rfl, g2, own2, HB1.out.set 0 (.int .i64 3), HR1.out.kept (own2 := fun k => k = g) ((Kept.refl (fun k => k = g) w1).setCell (g := g) (.inl rfl) 0 _) (fun k hk hk2 => (HS1.out k hk).2 hk2), HS1.out⟩⟩
    · have HST : Bx (wst wp0 (.chk h c) b = (.chk h (stp 2048 c b).1, 0)) := ⟨by show (if (stp 2048 c b).2 ≠ 0 then _ else if _ then _ else _) = _; rw [if_neg (by rw [h0]; simp), if_neg h10]⟩
      have hD : ptD 2048 c b = false := by unfold ptD; simp [h10]
      have HP2 : Bx ((stp 2048 c b).1.ph < 10) := ⟨by have := HCP.out h0; omega⟩
      rw [hD] at C2
      generalize (stp 2048 c b).1 = c2 at *
      clear h0 h10 hD hp h1
      go_enter Tryz.func18, Tryz.ntmps18
      go_wp2_with fail
      refine C1.out.mono ?_
      rintro e w0 ⟨rfl, rfl⟩
      go_wp2_with fail
      refine C2.out.mono ?_
      rintro e w1 ⟨rfl, own1, hch, hd1⟩
      have d0 : w1.cell? ⟨g, 0, none⟩ = some (.int .i64 2) := by obtain ⟨g2, own2, hB1, _⟩ := hch; exact hB1.cell 0
      have HCH := Bx.mk hch
      have HD1 := Bx.mk hd1
      clear hch hd1 c0 C1 C2
      go_wp2
      go_ret2
      refine ⟨by unfold puD puE; simp only [HST.out]; rfl, own1, ?_, HD1.out⟩
      have h8 : puS wp0 (.ok (.chk h c)) b = .ok (.chk h c2) := by unfold puS; simp only [HST.out]; rfl
      rw [h8]
      exact ⟨H, HX.out, HP2.out, HCH.out⟩
  · have HST : Bx (wst wp0 (.chk h c) b = (.chk h c, (stp 2048 c b).2)) := ⟨by show (if (stp 2048 c b).2 ≠ 0 then _ else if _ then _ else _) = _; rw [if_pos h0]⟩
    have hD : ptD 2048 c b = false := by unfold ptD; simp [h0]
    rw [hD] at C2
    have hne : ((stp 2048 c b).2 != 0) = true := by simpa using h0
    have HNE := Bx.mk h0
    generalize (stp 2048 c b).2 = E at *
    clear h0 hD hp h1 HCP
    go_enter Tryz.func18, Tryz.ntmps18
    go_wp2_with fail
    refine C1.out.mono ?_
    rintro e w0 ⟨rfl, rfl⟩
    go_wp2_with fail
    refine C2.out.mono ?_
    rintro e w1 ⟨rfl, own1, ⟨g2, own2, hB1, _⟩, hd1⟩
    have HD1 := Bx.mk hd1
    obtain ⟨hb1, hb2, hb3⟩ := hB1.store rowBad rfl
    clear hB1 hd1 c0 C1 C2
    have HB1 := Bx.mk hb1
    have HB2 := Bx.mk hb2
    have HB3 := Bx.mk hb3
    clear hb1 hb2 hb3
    go_wp2_with (refine wpList_store_mid rfl 52 (.tmp 47) (.tmp 46) rfl g 0 rowBad rfl rfl HB3.out reader_info (by simp [Value.oneCell', rowBad]) ?_)
    go_ret2
    refine ⟨by unfold puD puE; simp only [HST.out]; simp [HNE.out], own1, ?_, HD1.out.trans (Did.same HB2.out)⟩
    have h8 : puS wp0 (.ok (.chk h c)) b = .bad := by unfold puS; simp only [HST.out]; simp [WS.over, HNE.out]
    rw [h8]
    exact HB1.out
set_option maxRecDepth 100000 in
/-- a byte -/
theorem wput_any (B : Nat) (r : WR) (b : Int) (w : World) (hw : Wat w g own r) (hb : 0 ≤ b ∧ b ≤ 255) (he : Env B w) (hB : B ≤ w.heap.size) (hOw : ∀ k, own k → B ≤ k) :
    Calls Tryz.prog 18 #[.pointer (some ⟨g, 0, none⟩), .int .u8 b] w fun e w' => e = .returned (.tuple #[.bool (puD wp0 r b), .int .i64 (puE wp0 r b)]) ∧ ∃ own', Wat w' g own' (puS wp0 r b) ∧ Did own w w' own' := by
  match r, hw with
  | .bad, hw =>
    refine (wput_over .bad b w hw rfl).mono ?_
    rintro e w' ⟨rfl, rfl⟩
    exact ⟨rfl, own, hw, Did.same (Kept.refl _ _)⟩
  | .ok (.done x), hw =>
    refine (wput_over (.ok (.done x)) b w hw rfl).mono ?_
    rintro e w' ⟨rfl, rfl⟩
    exact ⟨rfl, own, hw, Did.same (Kept.refl _ _)⟩
  | .ok (.fix h left body), hw => exact wput_fix h left body b w hw hb
  | .ok (.chk h c), hw => exact wput_chk h c b w hw hb
  | .ok (.head h lines cnt cur), ⟨line, LV, cr, hc, hi, hm⟩ =>
    subst hc
    exact wput_head B h lines cnt line LV cr b w hm hi hb he hB hOw
end Go.Proofs.YtdameoejigpnhabGreatDoor
