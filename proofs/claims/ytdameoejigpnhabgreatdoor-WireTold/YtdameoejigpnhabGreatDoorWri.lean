/- A body, byte by byte; where a head leads. Where a reader stands, in memory; from a head to its body; a byte of a body. A byte of a body. -/
import Derived.Test.YtdameoejigpnhabGreatDoorWrh
namespace Go.Proofs.YtdameoejigpnhabGreatDoor
open Go.RowKit
set_option linter.unusedVariables false

variable {w w' : World} {g : Nat} {own : Nat → Prop} {cs : Array Value} {v : Value} {l : List Int}
set_option maxRecDepth 100000 in
/-- all cells of a reader are written -/
theorem Bk.store (h : Bk w g own cs v l) (vs : Array Value) (hs : vs.size = cs.size) : Bk (w.setCells g 0 vs.toList) g own vs (.slice none 0 0) [] ∧ Kept own w (w.setCells g 0 vs.toList) ∧ w.there g 0 vs.size := by
  refine ⟨⟨Byt.nil, h.og, fun k hk => by rw [setCells_size]; exact h.lt k hk, heap_stored h.row hs, World.ownsRow_nil _ _ _ _, fun k hk => by cases hk⟩, (Kept.refl own w).setCells (.inl h.og) _ 0, by rw [hs]; exact there_row h.row⟩
set_option maxRecDepth 100000 in
theorem Bk.keptO {own2 : Nat → Prop} (h : Bk w g own cs v l) (hb : Kept own2 w w') (hd : ∀ k, own k → ¬ own2 k) : Bk w' g own cs v l := h.keep (fun k hk => hb.block k (h.lt k hk) (hd k hk)) hb.size
set_option maxRecDepth 100000 in
theorem Bk.more_own {own2 : Nat → Prop} (h : Bk w g own cs v l) (h2 : ∀ k, own k → own2 k) (h3 : ∀ k, own2 k → k < w.heap.size) : Bk w g own2 cs v l := ⟨h.byt, h2 g h.og, h3, h.row, h.vr, fun k hk => h2 k (h.ov k hk)⟩
set_option maxHeartbeats 400000 in
theorem wmade_yes (x : Int) (w : World) (hc : w.cell? ⟨g, 0, none⟩ = some (.int .i64 x)) (hx : x ≠ 0) :
    Calls Tryz.prog 30 #[.pointer (some ⟨g, 0, none⟩)] w fun e w' => e = .returned (.bool true) ∧ w' = w := by
  have h1 : (x != 0) = true := by simpa using hx
  clear hx
  go_enter Tryz.func30, Tryz.ntmps30
  go_wp2
  go_ret
  exact ⟨rfl, rfl⟩
set_option maxHeartbeats 400000 in
theorem wmade_no (w : World) (hc : w.cell? ⟨g, 0, none⟩ = some (.int .i64 0)) :
    Calls Tryz.prog 30 #[.pointer (some ⟨g, 0, none⟩)] w fun e w' => e = .returned (.bool false) ∧ w' = w := by
  go_enter Tryz.func30, Tryz.ntmps30
  go_wp2
  go_ret
  exact ⟨rfl, rfl⟩
set_option maxHeartbeats 400000 in
theorem wmade_nil (w : World) :
    Calls Tryz.prog 30 #[.pointer none] w fun e w' => e = .returned (.bool false) ∧ w' = w := by
  go_enter Tryz.func30, Tryz.ntmps30
  go_wp2
  go_ret
  exact ⟨rfl, rfl⟩
/-- bytes of a body come -/
def hbB (h : HD) : Bool := h.enc || decide (h.n ≠ 0)
set_option maxHeartbeats 400000 in
theorem whas_any (h : HD) (w : World) (c10 : w.cell? ⟨g, 10, none⟩ = some (.int .i64 (frN h))) (c11 : w.cell? ⟨g, 11, none⟩ = some (.int .i64 (h.n : Int))) :
    Calls Tryz.prog 44 #[.pointer (some ⟨g, 1, none⟩)] w fun e w' => e = .returned (.bool (hbB h)) ∧ w' = w := by
  have HB : Bx (hbB h = (h.enc || decide (h.n ≠ 0))) := ⟨rfl⟩
  generalize hbB h = R at HB
  have e2 : (frN h == 2) = h.enc := by unfold frN; cases h.enc <;> cases h.len <;> rfl
  generalize frN h = F at c10 e2
  generalize h.enc = EN at e2 HB
  cases EN with
  | true =>
    clear c11
    go_enter Tryz.func44, Tryz.ntmps44
    go_wp2
    go_ret
    exact ⟨by rw [HB.out]; rfl, rfl⟩
  | false =>
    by_cases h0 : h.n = 0
    · have HN : Bx (R = false) := ⟨by rw [HB.out]; simp [h0]⟩
      rw [h0] at c11
      clear HB h0
      go_enter Tryz.func44, Tryz.ntmps44
      go_wp2
      go_ret
      exact ⟨by rw [HN.out]; rfl, rfl⟩
    · have HN : Bx (R = true) := ⟨by rw [HB.out]; simp [h0]⟩
      have hg : (h.n : Int) > 0 := by omega
      clear HB h0
      generalize (h.n : Int) = NN at c11 hg
      go_enter Tryz.func44, Tryz.ntmps44
      go_wp2
      go_ret
      exact ⟨by rw [HN.out]; rfl, rfl⟩
/-- the body that begins -/
def BegP (h : HD) (w w' : World) (e : Ending) : Prop := Below w.heap.size w w' ∧ ((h.enc = false ∧ e = .returned (.agg #[.int .i64 (h.n : Int), .slice none 0 0, .pointer none])) ∨
  (h.enc = true ∧ ∃ g2, e = .returned (.agg #[.int .i64 0, .slice none 0 0, .pointer (some ⟨g2, 0, none⟩)]) ∧ Rd w' g2 (fun k => k = g2) 2048 ⟨0, 0, []⟩ ∧ w.heap.size ≤ g2))
set_option maxRecDepth 100000 in
theorem body_info : (Tryz.prog.info? 50).map (·.size) = some 3 := by kernel_rfl
set_option maxHeartbeats 1000000 in
theorem wbegun_any (h : HD) (w : World) (hg : g < w.heap.size) (c10 : w.cell? ⟨g, 10, none⟩ = some (.int .i64 (frN h))) (c11 : w.cell? ⟨g, 11, none⟩ = some (.int .i64 (h.n : Int))) :
    Calls Tryz.prog 45 #[.pointer (some ⟨g, 1, none⟩)] w fun e w' => BegP h w w' e := by
  have hb0 : Below w.heap.size w (w.alloc (.cells #[.int .i64 0, .slice none 0 0, .pointer none] 50)) := (Below.refl _ _).alloc (Nat.le_refl _) _
  have d10 : (w.alloc (.cells #[.int .i64 0, .slice none 0 0, .pointer none] 50)).cell? ⟨g, 10, none⟩ = some (.int .i64 (frN h)) := (hb0.cell (p := ⟨g, 10, none⟩) hg).trans c10
  have d11 : (w.alloc (.cells #[.int .i64 0, .slice none 0 0, .pointer none] 50)).cell? ⟨g, 11, none⟩ = some (.int .i64 (h.n : Int)) := (hb0.cell (p := ⟨g, 11, none⟩) hg).trans c11
  have e2 : (frN h != 2) = !h.enc := by unfold frN; cases h.enc <;> cases h.len <;> rfl
  have HB0 := Bx.mk hb0
  have HROW : Bx ((w.alloc (.cells #[.int .i64 0, .slice none 0 0, .pointer none] 50)).heap[w.heap.size]? = some (.cells #[.int .i64 0, .slice none 0 0, .pointer none] 50 (0, 0))) := ⟨heap_alloc_new w _⟩
  clear hb0 c10 c11
  generalize frN h = F at d10 e2
  cases hen : h.enc with
  | false =>
    rw [hen] at e2
    have HEN := Bx.mk hen
    have HTH : Bx ((w.alloc (.cells #[.int .i64 0, .slice none 0 0, .pointer none] 50)).there w.heap.size 0 3) := ⟨there_row HROW.out⟩
    have HST : Bx (((w.alloc (.cells #[.int .i64 0, .slice none 0 0, .pointer none] 50)).setCells w.heap.size 0 #[.int .i64 (h.n : Int), .slice none 0 0, .pointer none].toList).heap[w.heap.size]? = some (.cells #[.int .i64 (h.n : Int), .slice none 0 0, .pointer none] 50 (0, 0))) := ⟨heap_stored HROW.out rfl⟩
    have HBS : Bx (Below w.heap.size w ((w.alloc (.cells #[.int .i64 0, .slice none 0 0, .pointer none] 50)).setCells w.heap.size 0 #[.int .i64 (h.n : Int), .slice none 0 0, .pointer none].toList)) := ⟨below_setCells HB0.out _ (Nat.le_refl _) _ 0⟩
    clear hen
    go_enter Tryz.func45, Tryz.ntmps45
    go_wp2_with (refine wpList_store_mid rfl 50 (.tmp 2) (.tmp 14) rfl w.heap.size 0 #[.int .i64 (h.n : Int), .slice none 0 0, .pointer none] rfl rfl HTH.out body_info (by simp [Value.oneCell']) ?_)
    exact bodyPost_ret (v := .agg #[.int .i64 (h.n : Int), .slice none 0 0, .pointer none]) (results_cell_row rfl _ _ w.heap.size 50 _ (0, 0) _ rfl HST.out Tryz.underlying50 rfl body_info) rfl ⟨HBS.out, .inl ⟨HEN.out, rfl⟩⟩
  | true =>
    rw [hen] at e2
    have HEN := Bx.mk hen
    clear hen d11
    have HS1 : Bx ((w.alloc (.cells #[.int .i64 0, .slice none 0 0, .pointer none] 50)).heap.size = w.heap.size + 1) := ⟨by simp⟩
    go_enter Tryz.func45, Tryz.ntmps45
    go_wp2_with fail
    refine (cnew_any 2048 2048 _ rfl (Nat.le_refl _)).mono ?_
    rintro e w2 ⟨rfl, hrd, hb2⟩
    have HRD := Bx.mk hrd
    have HB2 := Bx.mk hb2
    generalize hg2 : (w.alloc (.cells #[.int .i64 0, .slice none 0 0, .pointer none] 50)).heap.size = g2
    have HG2 := Bx.mk hg2
    have HR2 : Bx (w2.heap[w.heap.size]? = some (.cells #[.int .i64 0, .slice none 0 0, .pointer none] 50 (0, 0))) := ⟨by rw [hb2.block w.heap.size (by have := HS1.out; omega)]; exact HROW.out⟩
    have HTH : Bx (w2.there w.heap.size 0 3) := ⟨there_row HR2.out⟩
    have HST : Bx ((w2.setCells w.heap.size 0 #[.int .i64 0, .slice none 0 0, .pointer (some ⟨g2, 0, none⟩)].toList).heap[w.heap.size]? = some (.cells #[.int .i64 0, .slice none 0 0, .pointer (some ⟨g2, 0, none⟩)] 50 (0, 0))) := ⟨heap_stored HR2.out rfl⟩
    have HBS : Bx (Below w.heap.size w (w2.setCells w.heap.size 0 #[.int .i64 0, .slice none 0 0, .pointer (some ⟨g2, 0, none⟩)].toList)) := ⟨below_setCells (bstep HB0.out HB2.out) _ (Nat.le_refl _) _ 0⟩
    clear hrd hb2 hg2
    go_wp2_with (refine wpList_store_mid rfl 50 (.tmp 2) (.tmp 20) rfl w.heap.size 0 #[.int .i64 0, .slice none 0 0, .pointer (some ⟨g2, 0, none⟩)] rfl rfl HTH.out body_info (by simp [Value.oneCell']) ?_)
    refine bodyPost_ret (v := .agg #[.int .i64 0, .slice none 0 0, .pointer (some ⟨g2, 0, none⟩)]) (results_cell_row rfl _ _ w.heap.size 50 _ (0, 0) _ rfl HST.out Tryz.underlying50 rfl body_info) rfl ⟨HBS.out, .inr ⟨HEN.out, g2, rfl, ?_, ?_⟩⟩
    · have h9 := HRD.out
      rw [HG2.out] at h9
      exact h9.keep (fun k hk => setCells_other (by rw [hk, ← HG2.out, HS1.out]; omega) _ _) (by rw [setCells_size]; exact Nat.le_refl _)
    · rw [← HG2.out, HS1.out]; omega
end Go.Proofs.YtdameoejigpnhabGreatDoor
namespace Go.Proofs.YtdameoejigpnhabGreatDoor
open Go.RowKit
set_option linter.unusedVariables false

/-- what was asked -/
structure Hx (H : HM) (h : HD) : Prop where
  m : H.m = h.m
  t : H.t = h.t
  k : H.k = h.k
/-- a body of so many bytes -/
def FixM (w : World) (g : Nat) (own : Nat → Prop) (x : Int) (H : HM) (lf : Int) (body : List Int) : Prop := ∃ CV, Bk w g own (rowH x H lf CV (.pointer none)) CV body
/-- a body in chunks -/
def ChkM (w : World) (g : Nat) (own : Nat → Prop) (x : Int) (H : HM) (c : CS) : Prop := ∃ g2 own2, Bk w g own (rowH x H 0 (.slice none 0 0) (.pointer (some ⟨g2, 0, none⟩))) (.slice none 0 0) [] ∧ Rd w g2 own2 2048 c ∧ ∀ k, own2 k → own k ∧ k ≠ g
/-- a reader in memory -/
def Wat (w : World) (g : Nat) (own : Nat → Prop) : WR → Prop
  | .ok (.head h lines cnt cur) => ∃ line LV cr, cur = crL line cr ∧ HI h lines cnt line cr ∧ Hm w g own (hmOf h lines cnt line LV cr)
  | .ok (.fix h left body) => ∃ H, Hx H h ∧ 1 ≤ left ∧ body.length + left ≤ 2048 ∧ FixM w g own 2 H (left : Int) body
  | .ok (.chk h c) => ∃ H, Hx H h ∧ c.ph < 10 ∧ ChkM w g own 2 H c
  | .ok (.done x) => ∃ H h, Hx H h ∧ ((∃ body, x = h.x body ∧ body.length ≤ 2048 ∧ FixM w g own 3 H 0 body) ∨ (∃ c, x = h.x c.body ∧ ChkM w g own 3 H c))
  | .bad => Bk w g own #[.int .i64 4, .int .i64 0, .slice none 0 0, .bool false, .string ⟨#[]⟩, .string ⟨#[]⟩, .string ⟨#[]⟩, .slice none 0 0, .int .i64 0, .bool false, .int .i64 0, .int .i64 0, .int .i64 0, .slice none 0 0, .pointer none] (.slice none 0 0) []
variable {w w' : World} {g : Nat} {own : Nat → Prop}
set_option maxRecDepth 100000 in
theorem hm_hx (h : HD) (lines cnt : Nat) (line : List Int) (LV : Value) (cr : Bool) : Hx (hmOf h lines cnt line LV cr) h := ⟨rfl, rfl, rfl⟩
set_option maxRecDepth 100000 in
theorem reader_info : (Tryz.prog.info? 52).map (·.size) = some 15 := by kernel_rfl
set_option maxRecDepth 100000 in
set_option maxHeartbeats 1000000 in
theorem wgo_head (h : HD) (lines cnt : Nat) (LV : Value) (w : World) (hm : Hm w g own (hmOf h lines cnt [] LV false)) (hn : h.n ≤ 2048) :
    Calls Tryz.prog 33 #[.pointer (some ⟨g, 0, none⟩)] w fun e w' => e = .returned (.tuple #[]) ∧ ∃ own', Wat w' g own' (.ok (bgQ h)) ∧ Did own w w' own' := by
  have c0 := hm.c0
  have f0 := hm.fz 0
  have HC : Bx (w.cell? ⟨g, 10, none⟩ = some (.int .i64 (frN h)) ∧ w.cell? ⟨g, 11, none⟩ = some (.int .i64 (h.n : Int))) := ⟨hm.c10, hm.c11⟩
  have HL : Bx (g < w.heap.size) := ⟨hm.lt g hm.og⟩
  have HH := Bx.mk hm
  have HN := Bx.mk hn
  clear hm hn
  cases hb : hbB h with
  | false =>
    have HBQ : Bx (bgQ h = .done (h.x [])) := ⟨by
      unfold hbB at hb
      simp at hb
      unfold bgQ
      rw [if_neg (by rw [hb.1]; decide), if_pos hb.2]⟩
    have C1 : Hid (Calls Tryz.prog 44 #[.pointer (some ⟨g, 1, none⟩)] w fun e w' => e = .returned (.bool false) ∧ w' = w) := by rw [← hb]; exact whas_any h w HC.out.1 HC.out.2
    clear hb
    go_enter Tryz.func33, Tryz.ntmps33
    go_wp2_with fail
    refine C1.out.mono ?_
    rintro e w0 ⟨rfl, hw0⟩
    have hw1 := hw0.symm
    subst hw1
    go_wp2
    go_end0
    refine ⟨rfl, own, ?_, Did.same (HH.out.kset _ _)⟩
    rw [HBQ.out]
    exact ⟨hmOf h lines cnt [] LV false, h, hm_hx .., .inl ⟨[], rfl, by simp, .slice none 0 0, (Bk.nil HH.out).set 0 (.int .i64 3)⟩⟩
  | true =>
    have HBT := Bx.mk hb
    have C1 : Hid (Calls Tryz.prog 44 #[.pointer (some ⟨g, 1, none⟩)] w fun e w' => e = .returned (.bool true) ∧ w' = w) := by rw [← hb]; exact whas_any h w HC.out.1 HC.out.2
    have C2 : Hid (Calls Tryz.prog 45 #[.pointer (some ⟨g, 1, none⟩)] w fun e w' => BegP h w w' e) := wbegun_any h w HL.out HC.out.1 HC.out.2
    clear hb
    go_enter Tryz.func33, Tryz.ntmps33
    go_wp2_with fail
    refine C1.out.mono ?_
    rintro e w0 ⟨rfl, hw0⟩
    have hw1 := hw0.symm
    subst hw1
    go_wp2_with fail
    refine C2.out.mono ?_
    rintro e w1 ⟨hb1, hor⟩
    have HB1 := Bx.mk hb1
    have HH1 := Bx.mk (HH.out.below hb1)
    have d0 := HH1.out.c0
    have e0 := HH1.out.fz 0
    clear hb1
    have hB2 : Bk (w1.setCell ⟨g, 0, none⟩ (.int .i64 2)) g own (rowH 2 (hmOf h lines cnt [] LV false) 0 (.slice none 0 0) (.pointer none)) (.slice none 0 0) [] := (Bk.nil HH1.out).set 0 (.int .i64 2)
    have HB2 := Bx.mk hB2
    have HTH : Bx ((w1.setCell ⟨g, 0, none⟩ (.int .i64 2)).there g 12 3) := ⟨fun i hi => by have h9 := there_row hB2.row (12 + i) (by show 12 + i < 15; omega); rwa [Nat.zero_add] at h9⟩
    clear hB2
    rcases hor with ⟨hen, rfl⟩ | ⟨hen, g2, rfl, hrd, hg2⟩
    · have HBQ : Bx (bgQ h = .fix h h.n [] ∧ 1 ≤ h.n) := ⟨by
        have := HBT.out
        unfold hbB at this
        simp [hen] at this
        unfold bgQ
        rw [if_neg (by rw [hen]; decide), if_neg this]
        exact ⟨rfl, by omega⟩⟩
      clear hen
      go_wp2_with (refine wpList_store_mid rfl 50 (.tmp 22) (.tmp 18) rfl g 12 #[.int .i64 (h.n : Int), .slice none 0 0, .pointer none] rfl rfl HTH.out body_info (by simp [Value.oneCell']) ?_)
      refine bodyPost_ret (results_none rfl _ _ _) rfl ?_
      have hK : Kept own w ((w1.setCell ⟨g, 0, none⟩ (.int .i64 2)).setCells g 12 #[.int .i64 (h.n : Int), .slice none 0 0, .pointer none].toList) := ((Kept.of_below HB1.out).setCell (.inl HH.out.og) 0 _).setCells (.inl HH.out.og) _ 12
      refine ⟨rfl, own, ?_, Did.same hK⟩
      rw [HBQ.out.1]
      exact ⟨hmOf h lines cnt [] LV false, hm_hx .., HBQ.out.2, by have := HN.out; simpa using this, .slice none 0 0, ((HB2.out.set 12 (.int .i64 (h.n : Int))).set 13 (.slice none 0 0)).set 14 (.pointer none)⟩
    · have HBQ : Bx (bgQ h = .chk h ⟨0, 0, []⟩) := ⟨by unfold bgQ; rw [if_pos hen]⟩
      have HRD := Bx.mk hrd
      have HG2 := Bx.mk hg2
      clear hen hrd hg2
      go_wp2_with (refine wpList_store_mid rfl 50 (.tmp 22) (.tmp 18) rfl g 12 #[.int .i64 0, .slice none 0 0, .pointer (some ⟨g2, 0, none⟩)] rfl rfl HTH.out body_info (by simp [Value.oneCell']) ?_)
      refine bodyPost_ret (results_none rfl _ _ _) rfl ?_
      have hK : Kept own w ((w1.setCell ⟨g, 0, none⟩ (.int .i64 2)).setCells g 12 #[.int .i64 0, .slice none 0 0, .pointer (some ⟨g2, 0, none⟩)].toList) := ((Kept.of_below HB1.out).setCell (.inl HH.out.og) 0 _).setCells (.inl HH.out.og) _ 12
      have hBk : Bk ((w1.setCell ⟨g, 0, none⟩ (.int .i64 2)).setCells g 12 #[.int .i64 0, .slice none 0 0, .pointer (some ⟨g2, 0, none⟩)].toList) g own (rowH 2 (hmOf h lines cnt [] LV false) 0 (.slice none 0 0) (.pointer (some ⟨g2, 0, none⟩))) (.slice none 0 0) [] := ((HB2.out.set 12 (.int .i64 0)).set 13 (.slice none 0 0)).set 14 (.pointer (some ⟨g2, 0, none⟩))
      have hne : g2 ≠ g := by have := HL.out; have := HG2.out; omega
      have hsz : ((w1.setCell ⟨g, 0, none⟩ (.int .i64 2)).setCells g 12 #[.int .i64 0, .slice none 0 0, .pointer (some ⟨g2, 0, none⟩)].toList).heap.size = w1.heap.size := by rw [setCells_size]; simp [World.setCell]
      have hRd : Rd ((w1.setCell ⟨g, 0, none⟩ (.int .i64 2)).setCells g 12 #[.int .i64 0, .slice none 0 0, .pointer (some ⟨g2, 0, none⟩)].toList) g2 (fun k => k = g2) 2048 ⟨0, 0, []⟩ := HRD.out.kept (own2 := fun k => k = g) (((Kept.refl (fun k => k = g) w1).setCell (g := g) (.inl rfl) 0 _).setCells (g := g) (.inl rfl) _ 12) (fun k hk hk2 => hne (by rw [← hk, hk2]))
      have hg2l := HRD.out.lt g2 rfl
      refine ⟨rfl, fun k => own k ∨ k = g2, ?_, hK, fun k hk => ?_⟩
      · rw [HBQ.out]
        refine ⟨hmOf h lines cnt [] LV false, hm_hx .., by show 0 < 10; decide, g2, fun k => k = g2, hBk.more_own (fun k hk => .inl hk) (fun k hk => ?_), hRd, fun k hk => ⟨.inr hk, by rw [hk]; exact hne⟩⟩
        rcases hk with hk | hk
        · exact hBk.lt k hk
        · rw [hk, hsz]; exact hg2l
      · rcases hk with hk | hk
        · exact .inl hk
        · right; rw [hk, hsz]; exact ⟨HG2.out, hg2l⟩
set_option maxHeartbeats 400000 in
theorem wgo_body (w : World) (c0 : w.cell? ⟨g, 0, none⟩ = some (.int .i64 2)) (f0 : w.frozen? ⟨g, 0, none⟩ = false) :
    Calls Tryz.prog 33 #[.pointer (some ⟨g, 0, none⟩)] w fun e w' => e = .returned (.tuple #[]) ∧ w' = w.setCell ⟨g, 0, none⟩ (.int .i64 3) := by
  go_enter Tryz.func33, Tryz.ntmps33
  go_wp2
  go_end0
  exact ⟨rfl, rfl⟩
end Go.Proofs.YtdameoejigpnhabGreatDoor
namespace Go.Proofs.YtdameoejigpnhabGreatDoor
open Go.RowKit
set_option linter.unusedVariables false

variable {g : Nat} {own : Nat → Prop}
set_option maxRecDepth 100000 in
set_option maxHeartbeats 1000000 in
theorem wbfix_any (H : HM) (left : Nat) (body : List Int) (b : Int) (w : World) (hf : FixM w g own 2 H (left : Int) body) (h1 : 1 ≤ left) (h2 : body.length + left ≤ 2048) (hb : 0 ≤ b ∧ b ≤ 255) :
    Calls Tryz.prog 32 #[.pointer (some ⟨g, 12, none⟩), .int .u8 b] w fun e w' => e = .returned (.tuple #[.bool (decide (left = 1)), .int .i64 0]) ∧ ∃ own', FixM w' g own' 2 H ((left - 1 : Nat) : Int) (body ++ [b]) ∧ Did own w w' own' := by
  obtain ⟨CV, hB⟩ := hf
  obtain ⟨a, c, rfl, _⟩ := Bts.of_owns hB.vr hB.byt
  have c12 : w.cell? ⟨g, 12, none⟩ = some (.int .i64 (left : Int)) := hB.cell 12
  have c13 : w.cell? ⟨g, 13, none⟩ = some (.slice a body.length c) := hB.cell 13
  have c14 : w.cell? ⟨g, 14, none⟩ = some (.pointer none) := hB.cell 14
  have HB := Bx.mk hB
  have HV := Bx.mk hB.vr
  obtain ⟨i0, hi0, hz0, hz1, hz2⟩ := info_parts Tryz.info5
  have HD : Bx (decide (left = 1) = ((left : Int) - 1 == 0)) := ⟨by
    by_cases h : left = 1
    · subst h; rfl
    · rw [decide_eq_false h]; symm; simp; omega⟩
  have HL : Bx ((left : Int) - 1 = ((left - 1 : Nat) : Int)) := ⟨by omega⟩
  clear hB
  go_enter Tryz.func32, Tryz.ntmps32
  go_wp2_with (at_builtin; (refine wpList_append_lies _ rfl (.tmp 23) (.tmp 25) 22 rfl 0 5 i0 (.int .u8 0) 1 1 Tryz.underlying22 hi0 hz0 hz1 hz2 rfl (by decide) _ body.length (bv body) rfl (HV.out.alloc _) ⟨w.heap.size, 0, none⟩ 1 1 [.int .u8 b] rfl rfl (World.news_of_block (heap_alloc_new w _)) (by simp [Value.oneCell']) (by decide) (by unfold maxLen; omega) (by omega) (Nat.zero_le _) _ rfl ?_; intro g4 cap4 w4 hown4 hgr4 hl4 hlt4; obtain ⟨hR4, hK4⟩ := HB.out.more hb rfl hown4 hgr4 hl4 (by simp) hlt4; have k12 : w4.cell? ⟨g, 12, none⟩ = some (.int .i64 (left : Int)) := hR4.cell 12; have k13 : w4.cell? ⟨g, 13, none⟩ = some (.slice a body.length c) := hR4.cell 13; have f12 := hR4.fr 12; have f13 := hR4.fr 13; have HR4 := Bx.mk hR4; have HK4 := Bx.mk hK4; clear hown4 hgr4 hl4 hlt4 hi0 hz0 hz1 hz2 hR4 hK4 c12 c13))
  go_ret2
  have hF : Bk ((w4.setCell ⟨g, 13, none⟩ (.slice (some ⟨g4, 0, none⟩) (body.length + 1) cap4)).setCell ⟨g, 12, none⟩ (.int .i64 ((left : Int) - 1))) g (fun k => own k ∨ (w.heap.size ≤ k ∧ k < w4.heap.size)) (rowH 2 H ((left : Int) - 1) (.slice (some ⟨g4, 0, none⟩) (body.length + 1) cap4) (.pointer none)) (.slice (some ⟨g4, 0, none⟩) (body.length + 1) cap4) (body ++ [b]) := (HR4.out.set 13 _).set 12 _
  refine ⟨by rw [HD.out]; rfl, _, ⟨_, by rw [← HL.out]; exact hF⟩, ⟨(HK4.out.setCell (.inl HB.out.og) 13 _).setCell (.inl HB.out.og) 12 _, fun k hk => ?_⟩⟩
  rcases hk with hk | hk
  · exact .inl hk
  · right; simpa [World.setCell] using hk
set_option maxRecDepth 100000 in
set_option maxHeartbeats 1000000 in
theorem wbchk_any (H : HM) (cc : CS) (b : Int) (w : World) (hf : ChkM w g own 2 H cc) (hb : 0 ≤ b ∧ b ≤ 255) :
    Calls Tryz.prog 32 #[.pointer (some ⟨g, 12, none⟩), .int .u8 b] w fun e w' => e = .returned (.tuple #[.bool (ptD 2048 cc b), .int .i64 (stp 2048 cc b).2]) ∧ ∃ own', ChkM w' g own' 2 H (ptS 2048 cc b) ∧ Did own w w' own' := by
  obtain ⟨g2, own2, hB, hR, hs⟩ := hf
  have c14 : w.cell? ⟨g, 14, none⟩ = some (.pointer (some ⟨g2, 0, none⟩)) := hB.cell 14
  have HB := Bx.mk hB
  have HR := Bx.mk hR
  have HS := Bx.mk hs
  clear hB hR hs
  go_enter Tryz.func32, Tryz.ntmps32
  go_wp2_with fail
  refine (cput_any g2 own2 2048 cc b _ HR.out hb).mono ?_
  rintro e w1 ⟨rfl, own3, hr1, hd1⟩
  have HR1 := Bx.mk hr1
  have HD1 := Bx.mk hd1
  clear hr1 hd1
  generalize hD : ptD 2048 cc b = D
  generalize hE : (stp 2048 cc b).2 = E
  have HDD := Bx.mk hD
  have HEE := Bx.mk hE
  clear hD hE
  go_wp2
  go_ret2
  have hg1 : w1.heap[g]? = w.heap[g]? := HD1.out.kept.block g (HB.out.lt g HB.out.og) (fun h => (HS.out g h).2 rfl)
  have hne3 : ∀ k, own3 k → k ≠ g := fun k hk => by
    rcases HD1.out.new k hk with h1 | h1
    · exact (HS.out k h1).2
    · have := HB.out.lt g HB.out.og; omega
  have hsz := HD1.out.kept.size
  have hBk : Bk w1 g (fun k => own k ∨ own3 k) (rowH 2 H 0 (.slice none 0 0) (.pointer (some ⟨g2, 0, none⟩))) (.slice none 0 0) [] := ⟨Byt.nil, .inl HB.out.og, fun k hk => by
    rcases hk with hk | hk
    · exact Nat.lt_of_lt_of_le (HB.out.lt k hk) hsz
    · exact HR1.out.lt k hk, by rw [hg1]; exact HB.out.row, World.ownsRow_nil _ _ _ _, fun k hk => by cases hk⟩
  refine ⟨by rw [HDD.out, HEE.out]; rfl, _, ⟨g2, own3, hBk, HR1.out, fun k hk => ⟨.inr hk, hne3 k hk⟩⟩, ⟨⟨HD1.out.kept.os, HD1.out.kept.tape, HD1.out.kept.output, hsz, fun k hk hn => HD1.out.kept.block k hk (fun h => hn (HS.out k h).1)⟩, fun k hk => ?_⟩⟩
  rcases hk with hk | hk
  · exact .inl hk
  · rcases HD1.out.new k hk with h1 | h1
    · exact .inl (HS.out k h1).1
    · exact .inr h1
end Go.Proofs.YtdameoejigpnhabGreatDoor
