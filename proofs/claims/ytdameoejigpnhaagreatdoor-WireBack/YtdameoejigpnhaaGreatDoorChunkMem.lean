/- A reader of bodies in chunks, in memory; what Put answers and makes. No walk. -/
import Derived.Test.YtdameoejigpnhaaGreatDoorChunkMath2
import Derived.Test.YtdameoejigpnhaaGreatDoorKeep
namespace Go.Proofs.YtdameoejigpnhaaGreatDoor
open Go.RowKit
set_option linter.unusedVariables false

/-- where a reader stands, by its number in the program (11: there was an error) -/
def atN (ph : Nat) : Int := if ph = 0 then 1 else if ph = 1 then 7 else if ph ≤ 6 then (ph : Int) else (ph : Int) + 1
/-- what holds of a reader at all times -/
structure CI (most : Nat) (s : CS) : Prop where
  m : most ≤ 2048
  p : s.ph ≤ 11
  b : s.body.length ≤ most
  byt : Byt s.body
  z : s.ph ≤ 10 → ¬ (2 ≤ s.ph ∧ s.ph ≤ 4) → s.n = 0
  y : 2 ≤ s.ph → s.ph ≤ 4 → 1 ≤ s.n ∧ s.body.length + s.n ≤ most
  n : s.n ≤ 2048
/-- what Put makes of a reader -/
def ptS (most : Nat) (s : CS) (b : Int) : CS := if 10 ≤ s.ph then s else if (stp most s b).2 ≠ 0 then ⟨11, s.n, s.body⟩ else (stp most s b).1
/-- whether the body is whole with it -/
def ptD (most : Nat) (s : CS) (b : Int) : Bool := decide (s.ph < 10 ∧ (stp most s b).2 = 0 ∧ (stp most s b).1.ph = 10)
set_option maxRecDepth 100000 in
theorem CI.new {most : Nat} (h : most ≤ 2048) : CI most ⟨0, 0, []⟩ := ⟨h, by decide, by simp, Byt.nil, fun _ _ => rfl, fun h => by simp at h, by simp⟩
set_option maxRecDepth 100000 in
theorem CI.fail {most : Nat} {s : CS} (h : CI most s) : CI most ⟨11, s.n, s.body⟩ := ⟨h.m, Nat.le_refl _, h.b, h.byt, fun h => by simp at h, fun _ h => by simp at h, h.n⟩
set_option maxRecDepth 100000 in
theorem CI.stp {most : Nat} {s : CS} (h : CI most s) {b : Int} (hb : 0 ≤ b ∧ b ≤ 255) (h0 : (stp most s b).2 = 0) : CI most (stp most s b).1 ∧ (stp most s b).1.ph ≤ 10 := by
  obtain ⟨ph, n, body⟩ := s
  obtain ⟨hm, hp, hbl, hby, hz, hy, hn⟩ := h
  simp only at hp hbl hby hz hy hn
  have hd := dgt_le b
  have F : ∀ p k, p ≤ 10 → (¬ (2 ≤ p ∧ p ≤ 4) → k = 0) → (2 ≤ p → p ≤ 4 → 1 ≤ k ∧ body.length + k ≤ most) → CI most ⟨p, k, body⟩ ∧ (⟨p, k, body⟩ : CS).ph ≤ 10 := fun p k h1 h2 h3 =>
    ⟨⟨hm, by show p ≤ 11; omega, hbl, hby, fun _ h => h2 h, h3, by
      by_cases h4 : 2 ≤ p ∧ p ≤ 4
      · have := h3 h4.1 h4.2; show k ≤ 2048; omega
      · rw [show (⟨p, k, body⟩ : CS).n = 0 from h2 h4]; omega⟩, h1⟩
  match ph, hp with
  | 0, _ =>
    simp only [Go.Proofs.YtdameoejigpnhaaGreatDoor.stp] at h0 ⊢
    split
    · rename_i h1; rw [if_pos h1] at h0; simp at h0
    · rename_i h1; rw [if_neg h1] at h0
      split
      · exact F 1 0 (by decide) (fun _ => rfl) (fun h => by omega)
      · rename_i h2; rw [if_neg h2] at h0
        split
        · rename_i h3; rw [if_pos h3] at h0; simp at h0
        · exact F 2 _ (by decide) (fun h => by omega) (fun _ _ => by omega)
  | 1, _ =>
    simp only [Go.Proofs.YtdameoejigpnhaaGreatDoor.stp] at h0 ⊢
    split
    · exact F 7 0 (by decide) (fun _ => rfl) (fun _ h => by omega)
    · rename_i h1; rw [if_neg h1] at h0; simp at h0
  | 2, _ =>
    have hy2 := hy (by decide) (by decide)
    simp only [Go.Proofs.YtdameoejigpnhaaGreatDoor.stp] at h0 ⊢
    split
    · exact F 3 _ (by decide) (fun h => by omega) (fun _ _ => hy2)
    · rename_i h1; rw [if_neg h1] at h0
      split
      · rename_i h2; rw [if_pos h2] at h0; simp at h0
      · rename_i h2; rw [if_neg h2] at h0
        split
        · rename_i h3; rw [if_pos h3] at h0; simp at h0
        · exact F 2 _ (by decide) (fun h => by omega) (fun _ _ => by omega)
  | 3, _ =>
    have hy2 := hy (by decide) (by decide)
    simp only [Go.Proofs.YtdameoejigpnhaaGreatDoor.stp] at h0 ⊢
    split
    · exact F 4 _ (by decide) (fun h => by omega) (fun _ _ => hy2)
    · rename_i h1; rw [if_neg h1] at h0; simp at h0
  | 4, _ =>
    have hy2 := hy (by decide) (by decide)
    have hb2 : Byt (body ++ [b]) := hby.append (Byt.cons hb Byt.nil)
    simp only [Go.Proofs.YtdameoejigpnhaaGreatDoor.stp]
    split
    · rename_i h1
      exact ⟨⟨hm, (by show 5 ≤ 11; decide), by simp only [List.length_append, List.length_cons, List.length_nil]; omega, hb2, fun _ _ => rfl, fun _ h => by simp at h, by simp⟩, (by show 5 ≤ 10; decide)⟩
    · rename_i h1
      exact ⟨⟨hm, by simp, by simp only [List.length_append, List.length_cons, List.length_nil]; omega, hb2, fun _ h => by simp at h, fun _ _ => by simp only [List.length_append, List.length_cons, List.length_nil]; omega, by show n - 1 ≤ 2048; omega⟩, (by show 4 ≤ 10; decide)⟩
  | 5, _ =>
    simp only [Go.Proofs.YtdameoejigpnhaaGreatDoor.stp] at h0 ⊢
    split
    · exact F 6 0 (by decide) (fun _ => rfl) (fun _ h => by omega)
    · rename_i h1; rw [if_neg h1] at h0; simp at h0
  | 6, _ =>
    simp only [Go.Proofs.YtdameoejigpnhaaGreatDoor.stp] at h0 ⊢
    split
    · exact F 0 0 (by decide) (fun _ => rfl) (fun h => by omega)
    · rename_i h1; rw [if_neg h1] at h0; simp at h0
  | 7, _ =>
    simp only [Go.Proofs.YtdameoejigpnhaaGreatDoor.stp] at h0 ⊢
    split
    · exact F 8 0 (by decide) (fun _ => rfl) (fun _ h => by omega)
    · rename_i h1; rw [if_neg h1] at h0; simp at h0
  | 8, _ =>
    simp only [Go.Proofs.YtdameoejigpnhaaGreatDoor.stp] at h0 ⊢
    split
    · exact F 9 0 (by decide) (fun _ => rfl) (fun _ h => by omega)
    · rename_i h1; rw [if_neg h1] at h0; simp at h0
  | 9, _ =>
    simp only [Go.Proofs.YtdameoejigpnhaaGreatDoor.stp] at h0 ⊢
    split
    · exact F 10 0 (by decide) (fun _ => rfl) (fun _ h => by omega)
    · rename_i h1; rw [if_neg h1] at h0; simp at h0
  | 10, _ => simp [Go.Proofs.YtdameoejigpnhaaGreatDoor.stp] at h0
  | 11, _ => simp [Go.Proofs.YtdameoejigpnhaaGreatDoor.stp] at h0
  | (k + 12), h => omega
set_option maxRecDepth 100000 in
theorem ptS_over {most : Nat} {s : CS} (b : Int) (h : 10 ≤ s.ph) : ptS most s b = s := by unfold ptS; rw [if_pos h]
set_option maxRecDepth 100000 in
theorem ptS_err {most : Nat} {s : CS} {b : Int} (h : ¬ 10 ≤ s.ph) (h0 : (stp most s b).2 ≠ 0) : ptS most s b = ⟨11, s.n, s.body⟩ := by unfold ptS; rw [if_neg h, if_pos h0]
set_option maxRecDepth 100000 in
theorem ptS_ok {most : Nat} {s : CS} {b : Int} (h : ¬ 10 ≤ s.ph) (h0 : (stp most s b).2 = 0) : ptS most s b = (stp most s b).1 := by unfold ptS; rw [if_neg h, if_neg (by rw [h0]; simp)]
set_option maxRecDepth 100000 in
theorem stp_over {most : Nat} {s : CS} (b : Int) (h : 10 ≤ s.ph) : stp most s b = (s, 20) := by
  obtain ⟨ph, n, body⟩ := s
  match ph, h with
  | (k + 10), _ => rfl

set_option maxRecDepth 100000 in
theorem stp_err {most : Nat} {s : CS} {b : Int} (h : (stp most s b).2 ≠ 0) : (stp most s b).1 = s := by
  obtain ⟨ph, n, body⟩ := s
  by_cases hp : 10 ≤ ph
  · rw [stp_over b hp]
  · match ph, hp with
    | 0, _ | 1, _ | 2, _ | 3, _ | 4, _ | 5, _ | 6, _ | 7, _ | 8, _ | 9, _ =>
      simp only [Go.Proofs.YtdameoejigpnhaaGreatDoor.stp] at h ⊢
      repeat' split
      all_goals first | rfl | (exfalso; simp_all)
    | (k + 10), h => exact absurd (Nat.le_add_left 10 k) h

/-- a reader in memory, field by field -/
structure RdR (w : World) (g : Nat) (own : Nat → Prop) (x most n : Int) (body : List Int) (v : Value) : Prop where
  byt : Byt body
  og : own g
  lt : ∀ k, own k → k < w.heap.size
  row : w.heap[g]? = some (.cells #[.int .i64 x, .int .i64 most, .int .i64 n, v] 98 (0, 0))
  vr : w.ownsRow 0 5 1 v body.length (bv body)
  ov : ∀ k, v.ownBlock = some k → own k
variable {w w' : World} {g : Nat} {own : Nat → Prop} {x most n : Int} {body : List Int} {v : Value}
set_option maxRecDepth 100000 in
theorem RdR.c0 (h : RdR w g own x most n body v) : w.cell? ⟨g, 0, none⟩ = some (.int .i64 x) := by rw [cell_of_row w g 0 _ _ (0, 0) h.row]; rfl
set_option maxRecDepth 100000 in
theorem RdR.c1 (h : RdR w g own x most n body v) : w.cell? ⟨g, 1, none⟩ = some (.int .i64 most) := by rw [cell_of_row w g 1 _ _ (0, 0) h.row]; rfl
set_option maxRecDepth 100000 in
theorem RdR.c2 (h : RdR w g own x most n body v) : w.cell? ⟨g, 2, none⟩ = some (.int .i64 n) := by rw [cell_of_row w g 2 _ _ (0, 0) h.row]; rfl
set_option maxRecDepth 100000 in
theorem RdR.c3 (h : RdR w g own x most n body v) : w.cell? ⟨g, 3, none⟩ = some v := by rw [cell_of_row w g 3 _ _ (0, 0) h.row]; rfl
set_option maxRecDepth 100000 in
theorem RdR.fr (h : RdR w g own x most n body v) (j : Nat) : w.frozen? ⟨g, j, none⟩ = false := frozen_of_row _ _ j _ _ h.row
set_option maxRecDepth 100000 in
theorem RdR.ne (h : RdR w g own x most n body v) {k : Nat} (hk : v.ownBlock = some k) : k ≠ g := by
  rintro rfl
  rcases h.vr.2 with ⟨rfl, _⟩ | ⟨g', cap, cur, rfl, _, hg, _⟩
  · cases hk
  · obtain rfl : g' = k := by simpa [Value.ownBlock] using hk
    rw [h.row] at hg
    cases hg
set_option maxRecDepth 100000 in
theorem RdR.keep (h : RdR w g own x most n body v) (hb : ∀ k, own k → w'.heap[k]? = w.heap[k]?) (hs : w.heap.size ≤ w'.heap.size) : RdR w' g own x most n body v := by
  refine ⟨h.byt, h.og, fun k hk => Nat.lt_of_lt_of_le (h.lt k hk) hs, by rw [hb g h.og]; exact h.row, ⟨h.vr.1, ?_⟩, h.ov⟩
  rcases h.vr.2 with h2 | ⟨g', cap, cur, hv, hg, hh, r⟩
  · exact .inl h2
  · exact .inr ⟨g', cap, cur, hv, hg, by rw [hb g' (h.ov g' (by rw [hv]; rfl))]; exact hh, r⟩
set_option maxRecDepth 100000 in
theorem RdR.below (h : RdR w g own x most n body v) (hb : Below w.heap.size w w') : RdR w' g own x most n body v := h.keep (fun k hk => hb.block k (h.lt k hk)) hb.size
set_option maxRecDepth 100000 in
theorem RdR.setAt (h : RdR w g own x most n body v) (x2 : Int) : RdR (w.setCell ⟨g, 0, none⟩ (.int .i64 x2)) g own x2 most n body v :=
  ⟨h.byt, h.og, fun k hk => by have := h.lt k hk; simpa [World.setCell] using this, heap_setCell_same w g 0 _ _ _ h.row, owns_setCells (vs := [.int .i64 x2]) (o := 0) h.vr (fun k hk => h.ne hk), h.ov⟩
set_option maxRecDepth 100000 in
theorem RdR.setLeft (h : RdR w g own x most n body v) (n2 : Int) : RdR (w.setCell ⟨g, 2, none⟩ (.int .i64 n2)) g own x most n2 body v :=
  ⟨h.byt, h.og, fun k hk => by have := h.lt k hk; simpa [World.setCell] using this, heap_setCell_same w g 2 _ _ _ h.row, owns_setCells (vs := [.int .i64 n2]) (o := 2) h.vr (fun k hk => h.ne hk), h.ov⟩
set_option maxRecDepth 100000 in
theorem RdR.kset (h : RdR w g own x most n body v) (j : Nat) (z : Value) : Kept own w (w.setCell ⟨g, j, none⟩ z) := (Kept.refl own w).setCell (.inl h.og) j z
set_option maxRecDepth 100000 in
/-- one byte more is said -/
theorem RdR.more {b : Int} {g4 cap4 H : Nat} {wA w4 : World} (h : RdR w g own x most n body v) (hb : 0 ≤ b ∧ b ≤ 255) (hA : wA = w.alloc (.cells #[.int .u8 b] 5)) (ho : w4.ownsRow 0 5 1 (.slice (some ⟨g4, 0, none⟩) (body.length + 1) cap4) (body.length + 1) (bv body ++ [.int .u8 b])) (hg : wA.grownBy w4 v.ownBlock) (hl : v.ownBlock = some g4 ∨ g4 = H) (hH : H = w.heap.size + 1) (hlt : g4 < w4.heap.size) :
    w4.heap[g]? = some (.cells #[.int .i64 x, .int .i64 most, .int .i64 n, v] 98 (0, 0)) ∧ RdR (w4.setCell ⟨g, 3, none⟩ (.slice (some ⟨g4, 0, none⟩) (body.length + 1) cap4)) g (fun k => own k ∨ (w.heap.size ≤ k ∧ k < w4.heap.size)) x most n (body ++ [b]) (.slice (some ⟨g4, 0, none⟩) (body.length + 1) cap4) ∧ Kept own w (w4.setCell ⟨g, 3, none⟩ (.slice (some ⟨g4, 0, none⟩) (body.length + 1) cap4)) := by
  have hgl := h.lt g h.og
  have hsA : wA.heap.size = w.heap.size + 1 := by rw [hA]; simp
  have hrA : wA.heap[g]? = w.heap[g]? := by rw [hA]; exact ((Below.refl w.heap.size w).alloc (Nat.le_refl _) _).block g hgl
  have hr4 : w4.heap[g]? = some (.cells #[.int .i64 x, .int .i64 most, .int .i64 n, v] 98 (0, 0)) := by
    rw [hg.block g (by omega) (fun e => h.ne e.symm rfl), hrA]; exact h.row
  have hK : Kept own w w4 := by
    refine Kept.grown (w := wA) (by rw [hA]; exact (Kept.refl own w).alloc _) hg (fun k hk => .inl (h.ov k hk))
  have hg4 : g4 ≠ g := by
    rcases hl with h1 | h1
    · exact h.ne h1
    · omega
  have hsz : ∀ z : Value, (w4.setCell ⟨g, 3, none⟩ z).heap.size = w4.heap.size := fun z => by simp [World.setCell]
  refine ⟨hr4, ⟨?_, .inl h.og, fun k hk => ?_, heap_setCell_same w4 g 3 _ _ _ hr4, ?_, fun k hk => ?_⟩, hK.setCell (.inl h.og) 3 _⟩
  · exact h.byt.append (Byt.cons hb Byt.nil)
  · rw [hsz]
    rcases hk with hk | hk
    · have := h.lt k hk; have := hK.size; omega
    · exact hk.2
  · rw [bv_append, List.length_append]
    exact owns_setCells (vs := [_]) (o := 3) ho (fun k hk => by
      obtain rfl : g4 = k := by simpa [Value.ownBlock] using hk
      exact hg4)
  · obtain rfl : g4 = k := by simpa [Value.ownBlock] using hk
    rcases hl with h1 | h1
    · exact .inl (h.ov _ h1)
    · exact .inr ⟨by omega, hlt⟩
def Rd (w : World) (g : Nat) (own : Nat → Prop) (most : Nat) (s : CS) : Prop := CI most s ∧ ∃ v, RdR w g own (atN s.ph) (most : Int) (s.n : Int) s.body v
set_option maxRecDepth 100000 in
theorem Rd.og {most : Nat} {s : CS} (h : Rd w g own most s) : own g := by obtain ⟨_, v, h⟩ := h; exact h.og
set_option maxRecDepth 100000 in
theorem Rd.lt {most : Nat} {s : CS} (h : Rd w g own most s) : ∀ k, own k → k < w.heap.size := by obtain ⟨_, v, h⟩ := h; exact h.lt
set_option maxRecDepth 100000 in
theorem Rd.keep {most : Nat} {s : CS} (h : Rd w g own most s) (hb : ∀ k, own k → w'.heap[k]? = w.heap[k]?) (hs : w.heap.size ≤ w'.heap.size) : Rd w' g own most s := by obtain ⟨hc, v, h⟩ := h; exact ⟨hc, v, h.keep hb hs⟩
set_option maxRecDepth 100000 in
theorem Rd.below {most : Nat} {s : CS} (h : Rd w g own most s) (hb : Below w.heap.size w w') : Rd w' g own most s := h.keep (fun k hk => hb.block k (h.lt k hk)) hb.size
set_option maxRecDepth 100000 in
theorem Rd.kept {own2 : Nat → Prop} {most : Nat} {s : CS} (h : Rd w g own most s) (hb : Kept own2 w w') (hd : ∀ k, own k → ¬ own2 k) : Rd w' g own most s := h.keep (fun k hk => hb.block k (h.lt k hk) (hd k hk)) hb.size
set_option maxRecDepth 100000 in
theorem Rd.drewN {most : Nat} {s : CS} (h : Rd w g own most s) (q : Nat) : Rd (w.drewN q) g own most s := h.keep (fun _ _ => rfl) (Nat.le_refl _)
end Go.Proofs.YtdameoejigpnhaaGreatDoor
