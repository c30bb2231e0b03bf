/- Where a reader stands, in memory; from a head to its body; a byte of a body. -/
import Derived.Test.YtdameoejigpnhaaGreatDoorWBody
namespace Go.Proofs.YtdameoejigpnhaaGreatDoor
open Go.RowKit
set_option linter.unusedVariables false

/-- what was asked -/
structure Hx (H : HM) (h : HD) : Prop where
  m : H.m = h.m
  t : H.t = h.t
  k : H.k = h.k
/-- a body of so many bytes -/
def FixM (w : World) (g : Nat) (own : Nat → Prop) (x : Int) (H : HM) (lf : Int) (body : List Int) : Prop := ∃ CV, Bk w g own (rowH x H lf CV (.pointer none)) CV body
/-- a body in chunks -/
def ChkM (w : World) (g : Nat) (own : Nat → Prop) (x : Int) (H : HM) (c : CS) : Prop := ∃ g2 own2, Bk w g own (rowH x H 0 (.slice none 0 0) (.pointer (some ⟨g2, 0, none⟩))) (.slice none 0 0) [] ∧ Rd w g2 own2 2048 c ∧ ∀ k, own2 k → own k ∧ k ≠ g
/-- a reader in memory -/
def Wat (w : World) (g : Nat) (own : Nat → Prop) : WR → Prop
  | .ok (.head h lines cnt cur) => ∃ line LV cr, cur = crL line cr ∧ HI h lines cnt line cr ∧ Hm w g own (hmOf h lines cnt line LV cr)
  | .ok (.fix h left body) => ∃ H, Hx H h ∧ 1 ≤ left ∧ body.length + left ≤ 2048 ∧ FixM w g own 2 H (left : Int) body
  | .ok (.chk h c) => ∃ H, Hx H h ∧ c.ph < 10 ∧ ChkM w g own 2 H c
  | .ok (.done x) => ∃ H h, Hx H h ∧ ((∃ body, x = h.x body ∧ body.length ≤ 2048 ∧ FixM w g own 3 H 0 body) ∨ (∃ c, x = h.x c.body ∧ ChkM w g own 3 H c))
  | .bad => Bk w g own #[.int .i64 4, .int .i64 0, .slice none 0 0, .bool false, .string ⟨#[]⟩, .string ⟨#[]⟩, .string ⟨#[]⟩, .slice none 0 0, .int .i64 0, .bool false, .int .i64 0, .int .i64 0, .int .i64 0, .slice none 0 0, .pointer none] (.slice none 0 0) []
variable {w w' : World} {g : Nat} {own : Nat → Prop}
set_option maxRecDepth 100000 in
theorem hm_hx (h : HD) (lines cnt : Nat) (line : List Int) (LV : Value) (cr : Bool) : Hx (hmOf h lines cnt line LV cr) h := ⟨rfl, rfl, rfl⟩
set_option maxRecDepth 100000 in
theorem reader_info : (Tryz.prog.info? 75).map (·.size) = some 15 := by kernel_rfl
set_option maxRecDepth 100000 in
set_option maxHeartbeats 1000000 in
theorem wgo_head (h : HD) (lines cnt : Nat) (LV : Value) (w : World) (hm : Hm w g own (hmOf h lines cnt [] LV false)) (hn : h.n ≤ 2048) :
    Calls Tryz.prog 33 #[.pointer (some ⟨g, 0, none⟩)] w fun e w' => e = .returned (.tuple #[]) ∧ ∃ own', Wat w' g own' (.ok (bgQ h)) ∧ Did own w w' own' := by
  have c0 := hm.c0
  have f0 := hm.fz 0
  have HC : Bx (w.cell? ⟨g, 10, none⟩ = some (.int .i64 (frN h)) ∧ w.cell? ⟨g, 11, none⟩ = some (.int .i64 (h.n : Int))) := ⟨hm.c10, hm.c11⟩
  have HL : Bx (g < w.heap.size) := ⟨hm.lt g hm.og⟩
  have HH := Bx.mk hm
  have HN := Bx.mk hn
  clear hm hn
  cases hb : hbB h with
  | false =>
    have HBQ : Bx (bgQ h = .done (h.x [])) := ⟨by
      unfold hbB at hb
      simp at hb
      unfold bgQ
      rw [if_neg (by rw [hb.1]; decide), if_pos hb.2]⟩
    have C1 : Hid (Calls Tryz.prog 46 #[.pointer (some ⟨g, 1, none⟩)] w fun e w' => e = .returned (.bool false) ∧ w' = w) := by rw [← hb]; exact whas_any h w HC.out.1 HC.out.2
    clear hb
    go_enter Tryz.func33, Tryz.ntmps33
    go_wp2_with fail
    refine C1.out.mono ?_
    rintro e w0 ⟨rfl, hw0⟩
    have hw1 := hw0.symm
    subst hw1
    go_wp2
    go_end0
    refine ⟨rfl, own, ?_, Did.same (HH.out.kset _ _)⟩
    rw [HBQ.out]
    exact ⟨hmOf h lines cnt [] LV false, h, hm_hx .., .inl ⟨[], rfl, by simp, .slice none 0 0, (Bk.nil HH.out).set 0 (.int .i64 3)⟩⟩
  | true =>
    have HBT := Bx.mk hb
    have C1 : Hid (Calls Tryz.prog 46 #[.pointer (some ⟨g, 1, none⟩)] w fun e w' => e = .returned (.bool true) ∧ w' = w) := by rw [← hb]; exact whas_any h w HC.out.1 HC.out.2
    have C2 : Hid (Calls Tryz.prog 47 #[.pointer (some ⟨g, 1, none⟩)] w fun e w' => BegP h w w' e) := wbegun_any h w HL.out HC.out.1 HC.out.2
    clear hb
    go_enter Tryz.func33, Tryz.ntmps33
    go_wp2_with fail
    refine C1.out.mono ?_
    rintro e w0 ⟨rfl, hw0⟩
    have hw1 := hw0.symm
    subst hw1
    go_wp2_with fail
    refine C2.out.mono ?_
    rintro e w1 ⟨hb1, hor⟩
    have HB1 := Bx.mk hb1
    have HH1 := Bx.mk (HH.out.below hb1)
    have d0 := HH1.out.c0
    have e0 := HH1.out.fz 0
    clear hb1
    have hB2 : Bk (w1.setCell ⟨g, 0, none⟩ (.int .i64 2)) g own (rowH 2 (hmOf h lines cnt [] LV false) 0 (.slice none 0 0) (.pointer none)) (.slice none 0 0) [] := (Bk.nil HH1.out).set 0 (.int .i64 2)
    have HB2 := Bx.mk hB2
    have HTH : Bx ((w1.setCell ⟨g, 0, none⟩ (.int .i64 2)).there g 12 3) := ⟨fun i hi => by have h9 := there_row hB2.row (12 + i) (by show 12 + i < 15; omega); rwa [Nat.zero_add] at h9⟩
    clear hB2
    rcases hor with ⟨hen, rfl⟩ | ⟨hen, g2, rfl, hrd, hg2⟩
    · have HBQ : Bx (bgQ h = .fix h h.n [] ∧ 1 ≤ h.n) := ⟨by
        have := HBT.out
        unfold hbB at this
        simp [hen] at this
        unfold bgQ
        rw [if_neg (by rw [hen]; decide), if_neg this]
        exact ⟨rfl, by omega⟩⟩
      clear hen
      go_wp2_with (refine wpList_store_mid rfl 73 (.tmp 22) (.tmp 18) rfl g 12 #[.int .i64 (h.n : Int), .slice none 0 0, .pointer none] rfl rfl HTH.out body_info (by simp [Value.oneCell']) ?_)
      refine bodyPost_ret (results_none rfl _ _ _) rfl ?_
      have hK : Kept own w ((w1.setCell ⟨g, 0, none⟩ (.int .i64 2)).setCells g 12 #[.int .i64 (h.n : Int), .slice none 0 0, .pointer none].toList) := ((Kept.of_below HB1.out).setCell (.inl HH.out.og) 0 _).setCells (.inl HH.out.og) _ 12
      refine ⟨rfl, own, ?_, Did.same hK⟩
      rw [HBQ.out.1]
      exact ⟨hmOf h lines cnt [] LV false, hm_hx .., HBQ.out.2, by have := HN.out; simpa using this, .slice none 0 0, ((HB2.out.set 12 (.int .i64 (h.n : Int))).set 13 (.slice none 0 0)).set 14 (.pointer none)⟩
    · have HBQ : Bx (bgQ h = .chk h ⟨0, 0, []⟩) := ⟨by unfold bgQ; rw [if_pos hen]⟩
      have HRD := Bx.mk hrd
      have HG2 := Bx.mk hg2
      clear hen hrd hg2
      go_wp2_with (refine wpList_store_mid rfl 73 (.tmp 22) (.tmp 18) rfl g 12 #[.int .i64 0, .slice none 0 0, .pointer (some ⟨g2, 0, none⟩)] rfl rfl HTH.out body_info (by simp [Value.oneCell']) ?_)
      refine bodyPost_ret (results_none rfl _ _ _) rfl ?_
      have hK : Kept own w ((w1.setCell ⟨g, 0, none⟩ (.int .i64 2)).setCells g 12 #[.int .i64 0, .slice none 0 0, .pointer (some ⟨g2, 0, none⟩)].toList) := ((Kept.of_below HB1.out).setCell (.inl HH.out.og) 0 _).setCells (.inl HH.out.og) _ 12
      have hBk : Bk ((w1.setCell ⟨g, 0, none⟩ (.int .i64 2)).setCells g 12 #[.int .i64 0, .slice none 0 0, .pointer (some ⟨g2, 0, none⟩)].toList) g own (rowH 2 (hmOf h lines cnt [] LV false) 0 (.slice none 0 0) (.pointer (some ⟨g2, 0, none⟩))) (.slice none 0 0) [] := ((HB2.out.set 12 (.int .i64 0)).set 13 (.slice none 0 0)).set 14 (.pointer (some ⟨g2, 0, none⟩))
      have hne : g2 ≠ g := by have := HL.out; have := HG2.out; omega
      have hsz : ((w1.setCell ⟨g, 0, none⟩ (.int .i64 2)).setCells g 12 #[.int .i64 0, .slice none 0 0, .pointer (some ⟨g2, 0, none⟩)].toList).heap.size = w1.heap.size := by rw [setCells_size]; simp [World.setCell]
      have hRd : Rd ((w1.setCell ⟨g, 0, none⟩ (.int .i64 2)).setCells g 12 #[.int .i64 0, .slice none 0 0, .pointer (some ⟨g2, 0, none⟩)].toList) g2 (fun k => k = g2) 2048 ⟨0, 0, []⟩ := HRD.out.kept (own2 := fun k => k = g) (((Kept.refl (fun k => k = g) w1).setCell (g := g) (.inl rfl) 0 _).setCells (g := g) (.inl rfl) _ 12) (fun k hk hk2 => hne (by rw [← hk, hk2]))
      have hg2l := HRD.out.lt g2 rfl
      refine ⟨rfl, fun k => own k ∨ k = g2, ?_, hK, fun k hk => ?_⟩
      · rw [HBQ.out]
        refine ⟨hmOf h lines cnt [] LV false, hm_hx .., by show 0 < 10; decide, g2, fun k => k = g2, hBk.more_own (fun k hk => .inl hk) (fun k hk => ?_), hRd, fun k hk => ⟨.inr hk, by rw [hk]; exact hne⟩⟩
        rcases hk with hk | hk
        · exact hBk.lt k hk
        · rw [hk, hsz]; exact hg2l
      · rcases hk with hk | hk
        · exact .inl hk
        · right; rw [hk, hsz]; exact ⟨HG2.out, hg2l⟩
set_option maxHeartbeats 400000 in
theorem wgo_body (w : World) (c0 : w.cell? ⟨g, 0, none⟩ = some (.int .i64 2)) (f0 : w.frozen? ⟨g, 0, none⟩ = false) :
    Calls Tryz.prog 33 #[.pointer (some ⟨g, 0, none⟩)] w fun e w' => e = .returned (.tuple #[]) ∧ w' = w.setCell ⟨g, 0, none⟩ (.int .i64 3) := by
  go_enter Tryz.func33, Tryz.ntmps33
  go_wp2
  go_end0
  exact ⟨rfl, rfl⟩
end Go.Proofs.YtdameoejigpnhaaGreatDoor
