/- A body, byte by byte; where a head leads. -/
import Derived.Test.YtdameoejigpnhaaGreatDoorWHTake
namespace Go.Proofs.YtdameoejigpnhaaGreatDoor
open Go.RowKit
set_option linter.unusedVariables false

variable {w w' : World} {g : Nat} {own : Nat → Prop} {cs : Array Value} {v : Value} {l : List Int}
set_option maxRecDepth 100000 in
/-- all cells of a reader are written -/
theorem Bk.store (h : Bk w g own cs v l) (vs : Array Value) (hs : vs.size = cs.size) : Bk (w.setCells g 0 vs.toList) g own vs (.slice none 0 0) [] ∧ Kept own w (w.setCells g 0 vs.toList) ∧ w.there g 0 vs.size := by
  refine ⟨⟨Byt.nil, h.og, fun k hk => by rw [setCells_size]; exact h.lt k hk, heap_stored h.row hs, World.ownsRow_nil _ _ _ _, fun k hk => by cases hk⟩, (Kept.refl own w).setCells (.inl h.og) _ 0, by rw [hs]; exact there_row h.row⟩
set_option maxRecDepth 100000 in
theorem Bk.keptO {own2 : Nat → Prop} (h : Bk w g own cs v l) (hb : Kept own2 w w') (hd : ∀ k, own k → ¬ own2 k) : Bk w' g own cs v l := h.keep (fun k hk => hb.block k (h.lt k hk) (hd k hk)) hb.size
set_option maxRecDepth 100000 in
theorem Bk.more_own {own2 : Nat → Prop} (h : Bk w g own cs v l) (h2 : ∀ k, own k → own2 k) (h3 : ∀ k, own2 k → k < w.heap.size) : Bk w g own2 cs v l := ⟨h.byt, h2 g h.og, h3, h.row, h.vr, fun k hk => h2 k (h.ov k hk)⟩
set_option maxHeartbeats 400000 in
theorem wmade_yes (x : Int) (w : World) (hc : w.cell? ⟨g, 0, none⟩ = some (.int .i64 x)) (hx : x ≠ 0) :
    Calls Tryz.prog 30 #[.pointer (some ⟨g, 0, none⟩)] w fun e w' => e = .returned (.bool true) ∧ w' = w := by
  have h1 : (x != 0) = true := by simpa using hx
  clear hx
  go_enter Tryz.func30, Tryz.ntmps30
  go_wp2
  go_ret
  exact ⟨rfl, rfl⟩
set_option maxHeartbeats 400000 in
theorem wmade_no (w : World) (hc : w.cell? ⟨g, 0, none⟩ = some (.int .i64 0)) :
    Calls Tryz.prog 30 #[.pointer (some ⟨g, 0, none⟩)] w fun e w' => e = .returned (.bool false) ∧ w' = w := by
  go_enter Tryz.func30, Tryz.ntmps30
  go_wp2
  go_ret
  exact ⟨rfl, rfl⟩
set_option maxHeartbeats 400000 in
theorem wmade_nil (w : World) :
    Calls Tryz.prog 30 #[.pointer none] w fun e w' => e = .returned (.bool false) ∧ w' = w := by
  go_enter Tryz.func30, Tryz.ntmps30
  go_wp2
  go_ret
  exact ⟨rfl, rfl⟩
/-- bytes of a body come -/
def hbB (h : HD) : Bool := h.enc || decide (h.n ≠ 0)
set_option maxHeartbeats 400000 in
theorem whas_any (h : HD) (w : World) (c10 : w.cell? ⟨g, 10, none⟩ = some (.int .i64 (frN h))) (c11 : w.cell? ⟨g, 11, none⟩ = some (.int .i64 (h.n : Int))) :
    Calls Tryz.prog 46 #[.pointer (some ⟨g, 1, none⟩)] w fun e w' => e = .returned (.bool (hbB h)) ∧ w' = w := by
  have HB : Bx (hbB h = (h.enc || decide (h.n ≠ 0))) := ⟨rfl⟩
  generalize hbB h = R at HB
  have e2 : (frN h == 2) = h.enc := by unfold frN; cases h.enc <;> cases h.len <;> rfl
  generalize frN h = F at c10 e2
  generalize h.enc = EN at e2 HB
  cases EN with
  | true =>
    clear c11
    go_enter Tryz.func46, Tryz.ntmps46
    go_wp2
    go_ret
    exact ⟨by rw [HB.out]; rfl, rfl⟩
  | false =>
    by_cases h0 : h.n = 0
    · have HN : Bx (R = false) := ⟨by rw [HB.out]; simp [h0]⟩
      rw [h0] at c11
      clear HB h0
      go_enter Tryz.func46, Tryz.ntmps46
      go_wp2
      go_ret
      exact ⟨by rw [HN.out]; rfl, rfl⟩
    · have HN : Bx (R = true) := ⟨by rw [HB.out]; simp [h0]⟩
      have hg : (h.n : Int) > 0 := by omega
      clear HB h0
      generalize (h.n : Int) = NN at c11 hg
      go_enter Tryz.func46, Tryz.ntmps46
      go_wp2
      go_ret
      exact ⟨by rw [HN.out]; rfl, rfl⟩
/-- the body that begins -/
def BegP (h : HD) (w w' : World) (e : Ending) : Prop := Below w.heap.size w w' ∧ ((h.enc = false ∧ e = .returned (.agg #[.int .i64 (h.n : Int), .slice none 0 0, .pointer none])) ∨
  (h.enc = true ∧ ∃ g2, e = .returned (.agg #[.int .i64 0, .slice none 0 0, .pointer (some ⟨g2, 0, none⟩)]) ∧ Rd w' g2 (fun k => k = g2) 2048 ⟨0, 0, []⟩ ∧ w.heap.size ≤ g2))
set_option maxRecDepth 100000 in
theorem body_info : (Tryz.prog.info? 73).map (·.size) = some 3 := by kernel_rfl
set_option maxHeartbeats 1000000 in
theorem wbegun_any (h : HD) (w : World) (hg : g < w.heap.size) (c10 : w.cell? ⟨g, 10, none⟩ = some (.int .i64 (frN h))) (c11 : w.cell? ⟨g, 11, none⟩ = some (.int .i64 (h.n : Int))) :
    Calls Tryz.prog 47 #[.pointer (some ⟨g, 1, none⟩)] w fun e w' => BegP h w w' e := by
  have hb0 : Below w.heap.size w (w.alloc (.cells #[.int .i64 0, .slice none 0 0, .pointer none] 73)) := (Below.refl _ _).alloc (Nat.le_refl _) _
  have d10 : (w.alloc (.cells #[.int .i64 0, .slice none 0 0, .pointer none] 73)).cell? ⟨g, 10, none⟩ = some (.int .i64 (frN h)) := (hb0.cell (p := ⟨g, 10, none⟩) hg).trans c10
  have d11 : (w.alloc (.cells #[.int .i64 0, .slice none 0 0, .pointer none] 73)).cell? ⟨g, 11, none⟩ = some (.int .i64 (h.n : Int)) := (hb0.cell (p := ⟨g, 11, none⟩) hg).trans c11
  have e2 : (frN h != 2) = !h.enc := by unfold frN; cases h.enc <;> cases h.len <;> rfl
  have HB0 := Bx.mk hb0
  have HROW : Bx ((w.alloc (.cells #[.int .i64 0, .slice none 0 0, .pointer none] 73)).heap[w.heap.size]? = some (.cells #[.int .i64 0, .slice none 0 0, .pointer none] 73 (0, 0))) := ⟨heap_alloc_new w _⟩
  clear hb0 c10 c11
  generalize frN h = F at d10 e2
  cases hen : h.enc with
  | false =>
    rw [hen] at e2
    have HEN := Bx.mk hen
    have HTH : Bx ((w.alloc (.cells #[.int .i64 0, .slice none 0 0, .pointer none] 73)).there w.heap.size 0 3) := ⟨there_row HROW.out⟩
    have HST : Bx (((w.alloc (.cells #[.int .i64 0, .slice none 0 0, .pointer none] 73)).setCells w.heap.size 0 #[.int .i64 (h.n : Int), .slice none 0 0, .pointer none].toList).heap[w.heap.size]? = some (.cells #[.int .i64 (h.n : Int), .slice none 0 0, .pointer none] 73 (0, 0))) := ⟨heap_stored HROW.out rfl⟩
    have HBS : Bx (Below w.heap.size w ((w.alloc (.cells #[.int .i64 0, .slice none 0 0, .pointer none] 73)).setCells w.heap.size 0 #[.int .i64 (h.n : Int), .slice none 0 0, .pointer none].toList)) := ⟨below_setCells HB0.out _ (Nat.le_refl _) _ 0⟩
    clear hen
    go_enter Tryz.func47, Tryz.ntmps47
    go_wp2_with (refine wpList_store_mid rfl 73 (.tmp 2) (.tmp 14) rfl w.heap.size 0 #[.int .i64 (h.n : Int), .slice none 0 0, .pointer none] rfl rfl HTH.out body_info (by simp [Value.oneCell']) ?_)
    exact bodyPost_ret (v := .agg #[.int .i64 (h.n : Int), .slice none 0 0, .pointer none]) (results_cell_row rfl _ _ w.heap.size 73 _ (0, 0) _ rfl HST.out Tryz.underlying73 rfl body_info) rfl ⟨HBS.out, .inl ⟨HEN.out, rfl⟩⟩
  | true =>
    rw [hen] at e2
    have HEN := Bx.mk hen
    clear hen d11
    have HS1 : Bx ((w.alloc (.cells #[.int .i64 0, .slice none 0 0, .pointer none] 73)).heap.size = w.heap.size + 1) := ⟨by simp⟩
    go_enter Tryz.func47, Tryz.ntmps47
    go_wp2_with fail
    refine (cnew_any 2048 2048 _ rfl (Nat.le_refl _)).mono ?_
    rintro e w2 ⟨rfl, hrd, hb2⟩
    have HRD := Bx.mk hrd
    have HB2 := Bx.mk hb2
    generalize hg2 : (w.alloc (.cells #[.int .i64 0, .slice none 0 0, .pointer none] 73)).heap.size = g2
    have HG2 := Bx.mk hg2
    have HR2 : Bx (w2.heap[w.heap.size]? = some (.cells #[.int .i64 0, .slice none 0 0, .pointer none] 73 (0, 0))) := ⟨by rw [hb2.block w.heap.size (by have := HS1.out; omega)]; exact HROW.out⟩
    have HTH : Bx (w2.there w.heap.size 0 3) := ⟨there_row HR2.out⟩
    have HST : Bx ((w2.setCells w.heap.size 0 #[.int .i64 0, .slice none 0 0, .pointer (some ⟨g2, 0, none⟩)].toList).heap[w.heap.size]? = some (.cells #[.int .i64 0, .slice none 0 0, .pointer (some ⟨g2, 0, none⟩)] 73 (0, 0))) := ⟨heap_stored HR2.out rfl⟩
    have HBS : Bx (Below w.heap.size w (w2.setCells w.heap.size 0 #[.int .i64 0, .slice none 0 0, .pointer (some ⟨g2, 0, none⟩)].toList)) := ⟨below_setCells (bstep HB0.out HB2.out) _ (Nat.le_refl _) _ 0⟩
    clear hrd hb2 hg2
    go_wp2_with (refine wpList_store_mid rfl 73 (.tmp 2) (.tmp 20) rfl w.heap.size 0 #[.int .i64 0, .slice none 0 0, .pointer (some ⟨g2, 0, none⟩)] rfl rfl HTH.out body_info (by simp [Value.oneCell']) ?_)
    refine bodyPost_ret (v := .agg #[.int .i64 0, .slice none 0 0, .pointer (some ⟨g2, 0, none⟩)]) (results_cell_row rfl _ _ w.heap.size 73 _ (0, 0) _ rfl HST.out Tryz.underlying73 rfl body_info) rfl ⟨HBS.out, .inr ⟨HEN.out, g2, rfl, ?_, ?_⟩⟩
    · have h9 := HRD.out
      rw [HG2.out] at h9
      exact h9.keep (fun k hk => setCells_other (by rw [hk, ← HG2.out, HS1.out]; omega) _ _) (by rw [setCells_size]; exact Nat.le_refl _)
    · rw [← HG2.out, HS1.out]; omega
end Go.Proofs.YtdameoejigpnhaaGreatDoor
