/- A byte of a body. -/
import Derived.Test.YtdameoejigpnhaaGreatDoorWBody2
namespace Go.Proofs.YtdameoejigpnhaaGreatDoor
open Go.RowKit
set_option linter.unusedVariables false

variable {g : Nat} {own : Nat → Prop}
set_option maxRecDepth 100000 in
set_option maxHeartbeats 1000000 in
theorem wbfix_any (H : HM) (left : Nat) (body : List Int) (b : Int) (w : World) (hf : FixM w g own 2 H (left : Int) body) (h1 : 1 ≤ left) (h2 : body.length + left ≤ 2048) (hb : 0 ≤ b ∧ b ≤ 255) :
    Calls Tryz.prog 32 #[.pointer (some ⟨g, 12, none⟩), .int .u8 b] w fun e w' => e = .returned (.tuple #[.bool (decide (left = 1)), .int .i64 0]) ∧ ∃ own', FixM w' g own' 2 H ((left - 1 : Nat) : Int) (body ++ [b]) ∧ Did own w w' own' := by
  obtain ⟨CV, hB⟩ := hf
  obtain ⟨a, c, rfl, _⟩ := Bts.of_owns hB.vr hB.byt
  have c12 : w.cell? ⟨g, 12, none⟩ = some (.int .i64 (left : Int)) := hB.cell 12
  have c13 : w.cell? ⟨g, 13, none⟩ = some (.slice a body.length c) := hB.cell 13
  have c14 : w.cell? ⟨g, 14, none⟩ = some (.pointer none) := hB.cell 14
  have HB := Bx.mk hB
  have HV := Bx.mk hB.vr
  obtain ⟨i0, hi0, hz0, hz1, hz2⟩ := info_parts Tryz.info5
  have HD : Bx (decide (left = 1) = ((left : Int) - 1 == 0)) := ⟨by
    by_cases h : left = 1
    · subst h; rfl
    · rw [decide_eq_false h]; symm; simp; omega⟩
  have HL : Bx ((left : Int) - 1 = ((left - 1 : Nat) : Int)) := ⟨by omega⟩
  clear hB
  go_enter Tryz.func32, Tryz.ntmps32
  go_wp2_with (at_builtin; (refine wpList_append_lies _ rfl (.tmp 23) (.tmp 25) 22 rfl 0 5 i0 (.int .u8 0) 1 1 Tryz.underlying22 hi0 hz0 hz1 hz2 rfl (by decide) _ body.length (bv body) rfl (HV.out.alloc _) ⟨w.heap.size, 0, none⟩ 1 1 [.int .u8 b] rfl rfl (World.news_of_block (heap_alloc_new w _)) (by simp [Value.oneCell']) (by decide) (by unfold maxLen; omega) (by omega) (Nat.zero_le _) _ rfl ?_; intro g4 cap4 w4 hown4 hgr4 hl4 hlt4; obtain ⟨hR4, hK4⟩ := HB.out.more hb rfl hown4 hgr4 hl4 (by simp) hlt4; have k12 : w4.cell? ⟨g, 12, none⟩ = some (.int .i64 (left : Int)) := hR4.cell 12; have k13 : w4.cell? ⟨g, 13, none⟩ = some (.slice a body.length c) := hR4.cell 13; have f12 := hR4.fr 12; have f13 := hR4.fr 13; have HR4 := Bx.mk hR4; have HK4 := Bx.mk hK4; clear hown4 hgr4 hl4 hlt4 hi0 hz0 hz1 hz2 hR4 hK4 c12 c13))
  go_ret2
  have hF : Bk ((w4.setCell ⟨g, 13, none⟩ (.slice (some ⟨g4, 0, none⟩) (body.length + 1) cap4)).setCell ⟨g, 12, none⟩ (.int .i64 ((left : Int) - 1))) g (fun k => own k ∨ (w.heap.size ≤ k ∧ k < w4.heap.size)) (rowH 2 H ((left : Int) - 1) (.slice (some ⟨g4, 0, none⟩) (body.length + 1) cap4) (.pointer none)) (.slice (some ⟨g4, 0, none⟩) (body.length + 1) cap4) (body ++ [b]) := (HR4.out.set 13 _).set 12 _
  refine ⟨by rw [HD.out]; rfl, _, ⟨_, by rw [← HL.out]; exact hF⟩, ⟨(HK4.out.setCell (.inl HB.out.og) 13 _).setCell (.inl HB.out.og) 12 _, fun k hk => ?_⟩⟩
  rcases hk with hk | hk
  · exact .inl hk
  · right; simpa [World.setCell] using hk
set_option maxRecDepth 100000 in
set_option maxHeartbeats 1000000 in
theorem wbchk_any (H : HM) (cc : CS) (b : Int) (w : World) (hf : ChkM w g own 2 H cc) (hb : 0 ≤ b ∧ b ≤ 255) :
    Calls Tryz.prog 32 #[.pointer (some ⟨g, 12, none⟩), .int .u8 b] w fun e w' => e = .returned (.tuple #[.bool (ptD 2048 cc b), .int .i64 (stp 2048 cc b).2]) ∧ ∃ own', ChkM w' g own' 2 H (ptS 2048 cc b) ∧ Did own w w' own' := by
  obtain ⟨g2, own2, hB, hR, hs⟩ := hf
  have c14 : w.cell? ⟨g, 14, none⟩ = some (.pointer (some ⟨g2, 0, none⟩)) := hB.cell 14
  have HB := Bx.mk hB
  have HR := Bx.mk hR
  have HS := Bx.mk hs
  clear hB hR hs
  go_enter Tryz.func32, Tryz.ntmps32
  go_wp2_with fail
  refine (cput_any g2 own2 2048 cc b _ HR.out hb).mono ?_
  rintro e w1 ⟨rfl, own3, hr1, hd1⟩
  have HR1 := Bx.mk hr1
  have HD1 := Bx.mk hd1
  clear hr1 hd1
  generalize hD : ptD 2048 cc b = D
  generalize hE : (stp 2048 cc b).2 = E
  have HDD := Bx.mk hD
  have HEE := Bx.mk hE
  clear hD hE
  go_wp2
  go_ret2
  have hg1 : w1.heap[g]? = w.heap[g]? := HD1.out.kept.block g (HB.out.lt g HB.out.og) (fun h => (HS.out g h).2 rfl)
  have hne3 : ∀ k, own3 k → k ≠ g := fun k hk => by
    rcases HD1.out.new k hk with h1 | h1
    · exact (HS.out k h1).2
    · have := HB.out.lt g HB.out.og; omega
  have hsz := HD1.out.kept.size
  have hBk : Bk w1 g (fun k => own k ∨ own3 k) (rowH 2 H 0 (.slice none 0 0) (.pointer (some ⟨g2, 0, none⟩))) (.slice none 0 0) [] := ⟨Byt.nil, .inl HB.out.og, fun k hk => by
    rcases hk with hk | hk
    · exact Nat.lt_of_lt_of_le (HB.out.lt k hk) hsz
    · exact HR1.out.lt k hk, by rw [hg1]; exact HB.out.row, World.ownsRow_nil _ _ _ _, fun k hk => by cases hk⟩
  refine ⟨by rw [HDD.out, HEE.out]; rfl, _, ⟨g2, own3, hBk, HR1.out, fun k hk => ⟨.inr hk, hne3 k hk⟩⟩, ⟨⟨HD1.out.kept.os, HD1.out.kept.tape, HD1.out.kept.output, hsz, fun k hk hn => HD1.out.kept.block k hk (fun h => hn (HS.out k h).1)⟩, fun k hk => ?_⟩⟩
  rcases hk with hk | hk
  · exact .inl hk
  · rcases HD1.out.new k hk with h1 | h1
    · exact .inl (HS.out k h1).1
    · exact .inr h1
end Go.Proofs.YtdameoejigpnhaaGreatDoor
