/- A reader of requests in memory. No walk. What lines say: authorization, the body's length, the body in chunks. What further lines say. What the first line says. A line that is whole; a byte of a head. A byte of a head. A body, byte by byte; where a head leads. Where a reader stands, in memory; from a head to its body; a byte of a body. A byte of a body. What Put takes. -/
import Derived.Test.YtpfijaojgeceeaaGreatDoorAuai
import Derived.Test.YtpfijaojgeceeaaGreatDoorAual
import Derived.Test.YtpfijaojgeceeaaGreatDoorAuaj
namespace Go.Proofs.YtpfijaojgeceeaaGreatDoor
open Go.RowKit
set_option linter.unusedVariables false

/-- the block of a reader, and a row of bytes beside it that is the reader's own -/
structure Bk (w : World) (g : Nat) (own : Nat → Prop) (cs : Array Value) (v : Value) (l : List Int) : Prop where
  byt : Byt l
  og : own g
  lt : ∀ k, own k → k < w.heap.size
  row : w.heap[g]? = some (.cells cs 75 (0, 0))
  vr : w.ownsRow 0 5 1 v l.length (bv l)
  ov : ∀ k, v.ownBlock = some k → own k
variable {w w' : World} {g : Nat} {own : Nat → Prop} {cs : Array Value} {v : Value} {l : List Int}
set_option maxRecDepth 100000 in
theorem Bk.cell (h : Bk w g own cs v l) (j : Nat) : w.cell? ⟨g, j, none⟩ = cs[j]? := cell_of_row w g j _ _ (0, 0) h.row
set_option maxRecDepth 100000 in
theorem Bk.fr (h : Bk w g own cs v l) (j : Nat) : w.frozen? ⟨g, j, none⟩ = false := frozen_of_row _ _ j _ _ h.row
set_option maxRecDepth 100000 in
theorem Bk.ne (h : Bk w g own cs v l) {k : Nat} (hk : v.ownBlock = some k) : k ≠ g := by
  rintro rfl
  rcases h.vr.2 with ⟨rfl, _⟩ | ⟨g', cap, cur, rfl, _, hg, _⟩
  · cases hk
  · obtain rfl : g' = k := by simpa [Value.ownBlock] using hk
    rw [h.row] at hg
    cases hg
set_option maxRecDepth 100000 in
theorem Bk.keep (h : Bk w g own cs v l) (hb : ∀ k, own k → w'.heap[k]? = w.heap[k]?) (hs : w.heap.size ≤ w'.heap.size) : Bk w' g own cs v l := by
  refine ⟨h.byt, h.og, fun k hk => Nat.lt_of_lt_of_le (h.lt k hk) hs, by rw [hb g h.og]; exact h.row, ⟨h.vr.1, ?_⟩, h.ov⟩
  rcases h.vr.2 with h2 | ⟨g', cap, cur, hv, hg, hh, r⟩
  · exact .inl h2
  · exact .inr ⟨g', cap, cur, hv, hg, by rw [hb g' (h.ov g' (by rw [hv]; rfl))]; exact hh, r⟩
set_option maxRecDepth 100000 in
theorem Bk.below (h : Bk w g own cs v l) (hb : Below w.heap.size w w') : Bk w' g own cs v l := h.keep (fun k hk => hb.block k (h.lt k hk)) hb.size
set_option maxRecDepth 100000 in
theorem Bk.drewN (h : Bk w g own cs v l) (q : Nat) : Bk (w.drewN q) g own cs v l := h.keep (fun _ _ => rfl) (Nat.le_refl _)
set_option maxRecDepth 100000 in
theorem Bk.set (h : Bk w g own cs v l) (j : Nat) (z : Value) : Bk (w.setCell ⟨g, j, none⟩ z) g own (cs.setIfInBounds j z) v l :=
  ⟨h.byt, h.og, fun k hk => by have := h.lt k hk; simpa [World.setCell] using this, heap_setCell_same w g j _ _ _ h.row, owns_setCells (vs := [z]) (o := j) h.vr (fun k hk => h.ne hk), h.ov⟩
set_option maxRecDepth 100000 in
theorem Bk.kset (h : Bk w g own cs v l) (j : Nat) (z : Value) : Kept own w (w.setCell ⟨g, j, none⟩ z) := (Kept.refl own w).setCell (.inl h.og) j z
set_option maxRecDepth 100000 in
/-- the row is forgotten -/
theorem Bk.nil (h : Bk w g own cs v l) : Bk w g own cs (.slice none 0 0) [] := ⟨Byt.nil, h.og, h.lt, h.row, World.ownsRow_nil _ _ _ _, fun k hk => by cases hk⟩
set_option maxRecDepth 100000 in
/-- the row is cut to nothing -/
theorem Bk.cut {a : Option Addr} {n c : Nat} (h : Bk w g own cs (.slice a n c) l) : Bk w g own cs (.slice a 0 c) [] := by
  refine ⟨Byt.nil, h.og, h.lt, h.row, ?_, fun k hk => h.ov k (by cases a <;> exact hk)⟩
  refine ⟨rfl, ?_⟩
  rcases h.vr.2 with ⟨hv, _⟩ | ⟨g', cap, cur, hv, hg, hh, hc, hm, hs, _⟩
  · left; cases hv; exact ⟨rfl, rfl⟩
  · right; cases hv; exact ⟨g', _, cur, rfl, hg, hh, Nat.zero_le _, hm, hs, by simp [bv]⟩
set_option maxRecDepth 100000 in
theorem Bk.slA {a : Option Addr} {n c : Nat} (h : Bk w g own cs (.slice a n c) l) : slA a 0 c = a := by
  unfold Go.Proofs.YtpfijaojgeceeaaGreatDoor.slA
  rcases h.vr.2 with ⟨hv, _⟩ | ⟨g', cap, cur, hv, _⟩
  · cases hv; rfl
  · cases hv
    split
    · rfl
    · rfl
set_option maxRecDepth 100000 in
/-- one byte more behind the row -/
theorem Bk.more {b : Int} {g4 cap4 H : Nat} {wA w4 : World} (h : Bk w g own cs v l) (hb : 0 ≤ b ∧ b ≤ 255) (hA : wA = w.alloc (.cells #[.int .u8 b] 5)) (ho : w4.ownsRow 0 5 1 (.slice (some ⟨g4, 0, none⟩) (l.length + 1) cap4) (l.length + 1) (bv l ++ [.int .u8 b])) (hg : wA.grownBy w4 v.ownBlock) (hl : v.ownBlock = some g4 ∨ g4 = H) (hH : H = w.heap.size + 1) (hlt : g4 < w4.heap.size) :
    Bk w4 g (fun k => own k ∨ (w.heap.size ≤ k ∧ k < w4.heap.size)) cs (.slice (some ⟨g4, 0, none⟩) (l.length + 1) cap4) (l ++ [b]) ∧ Kept own w w4 := by
  have hgl := h.lt g h.og
  have hsA : wA.heap.size = w.heap.size + 1 := by rw [hA]; simp
  have hrA : wA.heap[g]? = w.heap[g]? := by rw [hA]; exact ((Below.refl w.heap.size w).alloc (Nat.le_refl _) _).block g hgl
  have hr4 : w4.heap[g]? = some (.cells cs 75 (0, 0)) := by
    rw [hg.block g (by omega) (fun e => h.ne e.symm rfl), hrA]; exact h.row
  have hK : Kept own w w4 := by
    refine Kept.grown (w := wA) (by rw [hA]; exact (Kept.refl own w).alloc _) hg (fun k hk => .inl (h.ov k hk))
  refine ⟨⟨h.byt.append (Byt.cons hb Byt.nil), .inl h.og, fun k hk => ?_, hr4, ?_, fun k hk => ?_⟩, hK⟩
  · rcases hk with hk | hk
    · have := h.lt k hk; have := hK.size; omega
    · exact hk.2
  · rw [bv_append, List.length_append]; exact ho
  · obtain rfl : g4 = k := by simpa [Value.ownBlock] using hk
    rcases hl with h1 | h1
    · exact .inl (h.ov _ h1)
    · exact .inr ⟨by omega, hlt⟩
/-- what a head is in memory: bytes that came, the line till now, whether CR stands behind it, what was asked, how many further lines, whether authorized, how the body is framed, its length -/
structure HM where
  sz : Int
  line : List Int
  LV : Value
  cr : Bool
  m : ByteArray
  t : ByteArray
  k : ByteArray
  fu : Int
  au : Bool
  fr : Int
  ln : Int
def rowH (x : Int) (H : HM) (lf : Int) (CV PV : Value) : Array Value := #[.int .i64 x, .int .i64 H.sz, H.LV, .bool H.cr, .string H.m, .string H.t, .string H.k, .slice none 0 0, .int .i64 H.fu, .bool H.au, .int .i64 H.fr, .int .i64 H.ln, .int .i64 lf, CV, PV]
/-- a reader in its head -/
def Hm (w : World) (g : Nat) (own : Nat → Prop) (H : HM) : Prop := Bk w g own (rowH 1 H 0 (.slice none 0 0) (.pointer none)) H.LV H.line
def frN (h : HD) : Int := if h.enc = true then 2 else if h.len = true then 1 else 0
def hmOf (h : HD) (lines cntT : Nat) (line : List Int) (LV : Value) (cr : Bool) : HM := ⟨(cntT : Int), line, LV, cr, h.m, h.t, h.k, ((lines - 1 : Nat) : Int), h.auth, frN h, (h.n : Int)⟩
variable {H : HM}
set_option maxRecDepth 100000 in
theorem Hm.c0 (h : Hm w g own H) : w.cell? ⟨g, 0, none⟩ = some (.int .i64 1) := Bk.cell h 0
set_option maxRecDepth 100000 in
theorem Hm.c1 (h : Hm w g own H) : w.cell? ⟨g, 1, none⟩ = some (.int .i64 H.sz) := Bk.cell h 1
set_option maxRecDepth 100000 in
theorem Hm.c2 (h : Hm w g own H) : w.cell? ⟨g, 2, none⟩ = some H.LV := Bk.cell h 2
set_option maxRecDepth 100000 in
theorem Hm.c3 (h : Hm w g own H) : w.cell? ⟨g, 3, none⟩ = some (.bool H.cr) := Bk.cell h 3
set_option maxRecDepth 100000 in
theorem Hm.c4 (h : Hm w g own H) : w.cell? ⟨g, 4, none⟩ = some (.string H.m) := Bk.cell h 4
set_option maxRecDepth 100000 in
theorem Hm.c5 (h : Hm w g own H) : w.cell? ⟨g, 5, none⟩ = some (.string H.t) := Bk.cell h 5
set_option maxRecDepth 100000 in
theorem Hm.c6 (h : Hm w g own H) : w.cell? ⟨g, 6, none⟩ = some (.string H.k) := Bk.cell h 6
set_option maxRecDepth 100000 in
theorem Hm.c8 (h : Hm w g own H) : w.cell? ⟨g, 8, none⟩ = some (.int .i64 H.fu) := Bk.cell h 8
set_option maxRecDepth 100000 in
theorem Hm.c9 (h : Hm w g own H) : w.cell? ⟨g, 9, none⟩ = some (.bool H.au) := Bk.cell h 9
set_option maxRecDepth 100000 in
theorem Hm.c10 (h : Hm w g own H) : w.cell? ⟨g, 10, none⟩ = some (.int .i64 H.fr) := Bk.cell h 10
set_option maxRecDepth 100000 in
theorem Hm.c11 (h : Hm w g own H) : w.cell? ⟨g, 11, none⟩ = some (.int .i64 H.ln) := Bk.cell h 11
set_option maxRecDepth 100000 in
theorem Hm.fz (h : Hm w g own H) (j : Nat) : w.frozen? ⟨g, j, none⟩ = false := Bk.fr h j
set_option maxRecDepth 100000 in
theorem Hm.sSz (h : Hm w g own H) (z : Int) : Hm (w.setCell ⟨g, 1, none⟩ (.int .i64 z)) g own { H with sz := z } := Bk.set h 1 _
set_option maxRecDepth 100000 in
theorem Hm.sCr (h : Hm w g own H) (z : Bool) : Hm (w.setCell ⟨g, 3, none⟩ (.bool z)) g own { H with cr := z } := Bk.set h 3 _
set_option maxRecDepth 100000 in
theorem Hm.sM (h : Hm w g own H) (z : ByteArray) : Hm (w.setCell ⟨g, 4, none⟩ (.string z)) g own { H with m := z } := Bk.set h 4 _
set_option maxRecDepth 100000 in
theorem Hm.sT (h : Hm w g own H) (z : ByteArray) : Hm (w.setCell ⟨g, 5, none⟩ (.string z)) g own { H with t := z } := Bk.set h 5 _
set_option maxRecDepth 100000 in
theorem Hm.sK (h : Hm w g own H) (z : ByteArray) : Hm (w.setCell ⟨g, 6, none⟩ (.string z)) g own { H with k := z } := Bk.set h 6 _
set_option maxRecDepth 100000 in
theorem Hm.sFu (h : Hm w g own H) (z : Int) : Hm (w.setCell ⟨g, 8, none⟩ (.int .i64 z)) g own { H with fu := z } := Bk.set h 8 _
set_option maxRecDepth 100000 in
theorem Hm.sAu (h : Hm w g own H) (z : Bool) : Hm (w.setCell ⟨g, 9, none⟩ (.bool z)) g own { H with au := z } := Bk.set h 9 _
set_option maxRecDepth 100000 in
theorem Hm.sFr (h : Hm w g own H) (z : Int) : Hm (w.setCell ⟨g, 10, none⟩ (.int .i64 z)) g own { H with fr := z } := Bk.set h 10 _
set_option maxRecDepth 100000 in
theorem Hm.sLn (h : Hm w g own H) (z : Int) : Hm (w.setCell ⟨g, 11, none⟩ (.int .i64 z)) g own { H with ln := z } := Bk.set h 11 _
set_option maxRecDepth 100000 in
theorem Hm.below (h : Hm w g own H) (hb : Below w.heap.size w w') : Hm w' g own H := Bk.below h hb
set_option maxRecDepth 100000 in
theorem Hm.drewN (h : Hm w g own H) (q : Nat) : Hm (w.drewN q) g own H := Bk.drewN h q
set_option maxRecDepth 100000 in
theorem Hm.kset (h : Hm w g own H) (j : Nat) (z : Value) : Kept own w (w.setCell ⟨g, j, none⟩ z) := Bk.kset h j z
set_option maxRecDepth 100000 in
theorem Hm.kset' {a : World} (h : Hm w g own H) (k : Kept own a w) (j : Nat) (z : Value) : Kept own a (w.setCell ⟨g, j, none⟩ z) := k.setCell (.inl h.og) j z
end Go.Proofs.YtpfijaojgeceeaaGreatDoor
namespace Go.Proofs.YtpfijaojgeceeaaGreatDoor
open Go.RowKit
set_option linter.unusedVariables false

set_option maxRecDepth 100000 in
theorem frN_ne (h : HD) : (frN h != 0) = (h.len || h.enc) := by
  unfold frN
  cases h.enc <;> cases h.len <;> rfl
def saidH (h : HD) (name value : List Int) (lines cntT : Nat) (line : List Int) (LV : Value) (cr : Bool) : HM := hmOf (sayV h name value).1 lines cntT line LV cr
set_option maxRecDepth 100000 in
set_option maxHeartbeats 1000000 in
theorem wpart_any (g : Nat) (own : Nat → Prop) (h : HD) (v : List Int) (lines cntT : Nat) (line : List Int) (LV : Value) (cr : Bool) (w : World) (hm : Hm w g own (hmOf h lines cntT line LV cr)) (hv : Byt v) :
    Calls Tryz.prog 73 #[.pointer (some ⟨g, 1, none⟩), .string (strOf v)] w fun e w' => e = .returned (.int .i64 (sayV h encN v).2) ∧ Hm w' g own (saidH h encN v lines cntT line LV cr) ∧ Kept own w w' := by
  have e1 : ((strOf v).toList == [99, 104, 117, 110, 107, 101, 100]) = decide (v = chkV) := lit_eq hv chkV (byt_dec (by decide)) _ rfl
  have c10 : w.cell? ⟨g, 10, none⟩ = some (.int .i64 (frN h)) := hm.c10
  have f10 := hm.fz 10
  have e2 := frN_ne h
  have HH := Bx.mk hm
  have HS : Bx (sayV h encN v = if h.len = true ∨ h.enc = true ∨ v ≠ chkV then (h, 4) else ({ h with enc := true }, 0)) := ⟨by unfold sayV; rw [if_neg (by decide), if_pos rfl]⟩
  clear hm
  by_cases h1 : v = chkV
  · rw [decide_eq_true h1] at e1
    cases h2 : (h.len || h.enc) with
    | true =>
      rw [h2] at e2
      have HE : Bx (sayV h encN v = (h, 4)) := ⟨by rw [HS.out, if_pos]; simp at h2; rcases h2 with h2 | h2 <;> simp [h2]⟩
      generalize frN h = F at c10 e2
      generalize strOf v = s at e1
      clear h1 h2 HS
      go_enter Tryz.func73, Tryz.ntmps73
      go_wp2
      go_ret
      refine ⟨by rw [HE.out]; rfl, ?_, Kept.refl _ _⟩
      unfold saidH; rw [HE.out]; exact HH.out
    | false =>
      rw [h2] at e2
      have HE : Bx (sayV h encN v = ({ h with enc := true }, 0)) := ⟨by
        rw [HS.out, if_neg]; simp at h2; simp [h2, h1]⟩
      have HF : Bx (Hm (w.setCell ⟨g, 10, none⟩ (.int .i64 2)) g own (saidH h encN v lines cntT line LV cr)) := ⟨by unfold saidH; rw [HE.out]; exact HH.out.sFr 2⟩
      generalize frN h = F at c10 e2
      generalize strOf v = s at e1
      clear h1 h2 HS
      go_enter Tryz.func73, Tryz.ntmps73
      go_wp2
      go_ret
      exact ⟨by rw [HE.out]; rfl, HF.out, HH.out.kset _ _⟩
  · rw [decide_eq_false h1] at e1
    have HE : Bx (sayV h encN v = (h, 4)) := ⟨by rw [HS.out, if_pos]; simp [h1]⟩
    generalize frN h = F at c10 e2
    generalize strOf v = s at e1
    clear h1 HS
    go_enter Tryz.func73, Tryz.ntmps73
    go_wp2
    go_ret
    refine ⟨by rw [HE.out]; rfl, ?_, Kept.refl _ _⟩
    unfold saidH; rw [HE.out]; exact HH.out
set_option maxRecDepth 100000 in
set_option maxHeartbeats 1000000 in
theorem wauth_any (g : Nat) (own : Nat → Prop) (h : HD) (v : List Int) (lines cntT : Nat) (line : List Int) (LV : Value) (cr : Bool) (w : World) (hm : Hm w g own (hmOf h lines cntT line LV cr)) (hv : Byt v) :
    Calls Tryz.prog 71 #[.pointer (some ⟨g, 1, none⟩), .string (strOf v)] w fun e w' => e = .returned (.int .i64 (sayV h authN v).2) ∧ Hm w' g own (saidH h authN v lines cntT line LV cr) ∧ Kept own w w' := by
  have C0 : Hid (∀ wr, Calls Tryz.prog 93 #[.string (strOf v), .string ⟨#[66, 101, 97, 114, 101, 114, 32]⟩] wr fun e w' => e = .returned (.tuple #[.string (if v.take 7 = bearV then strOf (v.drop 7) else strOf v), .bool (decide (v.take 7 = bearV))]) ∧ w' = wr) := fun wr => cutpre_any v bearV wr hv (byt_dec (by decide))
  have c9 : w.cell? ⟨g, 9, none⟩ = some (.bool h.auth) := hm.c9
  have f9 := hm.fz 9
  have f6 := hm.fz 6
  have c6 : w.cell? ⟨g, 6, none⟩ = some (.string h.k) := hm.c6
  have HH := Bx.mk hm
  have HS : Bx (sayV h authN v = if h.auth = true ∨ v.take 7 ≠ bearV then (h, 4) else ({ h with auth := true, k := strOf (v.drop 7) }, 0)) := ⟨by unfold sayV; rw [if_pos rfl]⟩
  clear hm
  by_cases h1 : v.take 7 = bearV
  · rw [decide_eq_true h1, if_pos h1] at C0
    cases h2 : h.auth with
    | true =>
      rw [h2] at c9
      have HE : Bx (sayV h authN v = (h, 4)) := ⟨by rw [HS.out, if_pos (.inl h2)]⟩
      generalize strOf v = s at C0
      generalize strOf (v.drop 7) = r at C0
      clear h1 h2 HS
      go_enter Tryz.func71, Tryz.ntmps71
      go_wp2_with fail
      refine (C0.out _).mono ?_
      rintro e w' ⟨rfl, rfl⟩
      go_wp2
      go_ret
      refine ⟨by rw [HE.out]; rfl, ?_, Kept.refl _ _⟩
      unfold saidH; rw [HE.out]; exact HH.out
    | false =>
      rw [h2] at c9
      have HE : Bx (sayV h authN v = ({ h with auth := true, k := strOf (v.drop 7) }, 0)) := ⟨by rw [HS.out, if_neg]; simp [h1, h2]⟩
      have HF : Bx (Hm ((w.setCell ⟨g, 9, none⟩ (.bool true)).setCell ⟨g, 6, none⟩ (.string (strOf (v.drop 7)))) g own (saidH h authN v lines cntT line LV cr) ∧ Kept own w ((w.setCell ⟨g, 9, none⟩ (.bool true)).setCell ⟨g, 6, none⟩ (.string (strOf (v.drop 7))))) := ⟨by unfold saidH; rw [HE.out]; exact ⟨(HH.out.sAu true).sK _, (HH.out.sAu true).kset' (HH.out.kset _ _) _ _⟩⟩
      have f6b := (HH.out.sAu true).fz 6
      have c6b := (HH.out.sAu true).c6
      generalize strOf v = s at C0
      generalize strOf (v.drop 7) = r at C0 HF
      clear h1 h2 HS
      go_enter Tryz.func71, Tryz.ntmps71
      go_wp2_with fail
      refine (C0.out _).mono ?_
      rintro e w' ⟨rfl, rfl⟩
      go_wp2
      go_ret
      exact ⟨by rw [HE.out]; rfl, HF.out⟩
  · rw [decide_eq_false h1, if_neg h1] at C0
    have HE : Bx (sayV h authN v = (h, 4)) := ⟨by rw [HS.out, if_pos (.inr h1)]⟩
    generalize strOf v = s at C0
    clear h1 HS
    go_enter Tryz.func71, Tryz.ntmps71
    go_wp2_with fail
    refine (C0.out _).mono ?_
    rintro e w' ⟨rfl, rfl⟩
    go_wp2
    go_ret
    refine ⟨by rw [HE.out]; rfl, ?_, Kept.refl _ _⟩
    unfold saidH; rw [HE.out]; exact HH.out
end Go.Proofs.YtpfijaojgeceeaaGreatDoor
namespace Go.Proofs.YtpfijaojgeceeaaGreatDoor
open Go.RowKit
set_option linter.unusedVariables false

set_option maxRecDepth 100000 in
set_option maxHeartbeats 1000000 in
theorem wmeas_any (B g : Nat) (own : Nat → Prop) (h : HD) (v : List Int) (lines cntT : Nat) (line : List Int) (LV : Value) (cr : Bool) (w : World) (hm : Hm w g own (hmOf h lines cntT line LV cr)) (hv : Byt v) (hvl : v.length ≤ 1000000) (he : Env B w) :
    Calls Tryz.prog 72 #[.pointer (some ⟨g, 1, none⟩), .string (strOf v)] w fun e w' => e = .returned (.int .i64 (sayV h lenN v).2) ∧ Hm w' g own (saidH h lenN v lines cntT line LV cr) ∧ Kept own w w' := by
  have C0 : Hid (Calls Tryz.prog 41 #[.string (strOf v)] w fun e w' => RdPT (strOf v) e ∧ Below w.heap.size w w') := read_anyT (strOf v) w (by rw [strOf_size]; omega) he.tens he.errs
  unfold RdPT at C0
  rw [rd_link v hv] at C0
  have e2 := frN_ne h
  have HH := Bx.mk hm
  have HS : Bx (sayV h lenN v = if h.len = true ∨ h.enc = true then (h, (4 : Int)) else match rdD v with | none => (h, (4 : Int)) | some n => if 9223372036854775807 < n then (h, 4) else if 2048 < n then (h, 5) else ({ h with len := true, n := n }, 0)) := ⟨by unfold sayV; rw [if_neg (by decide), if_neg (by decide), if_pos rfl]; rfl⟩
  clear hm he hvl
  have BAD : ∀ (_ : sayV h lenN v = (h, 4)) (C1 : Hid (Calls Tryz.prog 41 #[.string (strOf v)] w fun e w' => e = .returned (.tuple #[.int .i64 0, .bool false]) ∧ Below w.heap.size w w')), Calls Tryz.prog 72 #[.pointer (some ⟨g, 1, none⟩), .string (strOf v)] w fun e w' => e = .returned (.int .i64 (sayV h lenN v).2) ∧ Hm w' g own (saidH h lenN v lines cntT line LV cr) ∧ Kept own w w' := by
    intro hE C1
    have HE := Bx.mk hE
    clear hE C0 HS e2
    generalize strOf v = s at C1
    go_enter Tryz.func72, Tryz.ntmps72
    go_wp2_with fail
    refine C1.out.mono ?_
    rintro e w' ⟨rfl, hb⟩
    have HB := Bx.mk hb
    clear hb
    go_wp2
    go_ret
    refine ⟨by rw [HE.out]; rfl, ?_, Kept.of_below HB.out⟩
    unfold saidH; rw [HE.out]; exact HH.out.below HB.out
  cases hr : rdD v with
  | none =>
    rw [hr] at HS C0
    exact BAD (by rw [HS.out]; simp) C0
  | some n =>
    rw [hr] at HS C0
    simp only at HS C0
    by_cases h1 : n ≤ 9223372036854775807
    · rw [if_pos h1] at C0
      have C1 : Hid (Calls Tryz.prog 41 #[.string (strOf v)] w fun e w' => e = .returned (.tuple #[.int .i64 (n : Int), .bool true]) ∧ Below w.heap.size w w') := C0
      clear C0 BAD
      cases h2 : (h.len || h.enc) with
      | true =>
        have HE : Bx (sayV h lenN v = (h, 4)) := ⟨by rw [HS.out, if_pos]; simpa using h2⟩
        rw [h2] at e2
        clear h2 HS hr
        generalize strOf v = s at C1
        go_enter Tryz.func72, Tryz.ntmps72
        go_wp2_with fail
        refine C1.out.mono ?_
        rintro e w' ⟨rfl, hb⟩
        have HB := Bx.mk hb
        have HH2 := Bx.mk (HH.out.below hb)
        have c10 : w'.cell? ⟨g, 10, none⟩ = some (.int .i64 (frN h)) := HH2.out.c10
        generalize frN h = F at c10 e2
        clear hb
        go_wp2
        go_ret
        refine ⟨by rw [HE.out]; rfl, ?_, Kept.of_below HB.out⟩
        unfold saidH; rw [HE.out]; exact HH2.out
      | false =>
        rw [h2] at e2
        have HS2 : Bx (sayV h lenN v = if 2048 < n then (h, 5) else ({ h with len := true, n := n }, 0)) := ⟨by rw [HS.out, if_neg (by simpa using h2), if_neg (by omega)]⟩
        have hen : h.enc = false := by cases hh : h.enc <;> simp_all
        clear h2 HS hr
        generalize strOf v = s at C1
        by_cases h3 : 2048 < n
        · have HE : Bx (sayV h lenN v = (h, 5)) := ⟨by rw [HS2.out, if_pos h3]⟩
          have g1 : (2048 : Int) < (n : Int) := by omega
          clear HS2 h3 hen
          go_enter Tryz.func72, Tryz.ntmps72
          go_wp2_with fail
          refine C1.out.mono ?_
          rintro e w' ⟨rfl, hb⟩
          have HB := Bx.mk hb
          have HH2 := Bx.mk (HH.out.below hb)
          have c10 : w'.cell? ⟨g, 10, none⟩ = some (.int .i64 (frN h)) := HH2.out.c10
          generalize frN h = F at c10 e2
          clear hb
          go_wp2
          go_ret
          refine ⟨by rw [HE.out]; rfl, ?_, Kept.of_below HB.out⟩
          unfold saidH; rw [HE.out]; exact HH2.out
        · have HE : Bx (sayV h lenN v = ({ h with len := true, n := n }, 0)) := ⟨by rw [HS2.out, if_neg h3]⟩
          have g1 : ¬ (2048 : Int) < (n : Int) := by omega
          have HEN := Bx.mk hen
          clear HS2 h3 hen
          go_enter Tryz.func72, Tryz.ntmps72
          go_wp2_with fail
          refine C1.out.mono ?_
          rintro e w' ⟨rfl, hb⟩
          have HB := Bx.mk hb
          have HH2 := Bx.mk (HH.out.below hb)
          have c10 : w'.cell? ⟨g, 10, none⟩ = some (.int .i64 (frN h)) := HH2.out.c10
          have f10 := HH2.out.fz 10
          have HF : Bx (Hm ((w'.setCell ⟨g, 10, none⟩ (.int .i64 1)).setCell ⟨g, 11, none⟩ (.int .i64 (n : Int))) g own (saidH h lenN v lines cntT line LV cr) ∧ Kept own w ((w'.setCell ⟨g, 10, none⟩ (.int .i64 1)).setCell ⟨g, 11, none⟩ (.int .i64 (n : Int)))) := ⟨by
            refine ⟨?_, (HH2.out.sFr 1).kset' (HH2.out.kset' (Kept.of_below HB.out) _ _) _ _⟩
            have h5 := (HH2.out.sFr 1).sLn (n : Int)
            unfold saidH; rw [HE.out]
            have h6 : frN { h with len := true, n := n } = 1 := by unfold frN; rw [if_neg (by rw [HEN.out]; decide), if_pos rfl]
            unfold hmOf; rw [h6]; exact h5⟩
          have f11 := (HH2.out.sFr 1).fz 11
          have c11 := (HH2.out.sFr 1).c11
          generalize frN h = F at c10 e2
          clear hb
          go_wp2
          go_ret
          exact ⟨by rw [HE.out]; rfl, HF.out⟩
    · rw [if_neg h1] at C0
      exact BAD (by rw [HS.out, if_pos (by omega : 9223372036854775807 < n), ite_self]) C0
/-- what a further line says, in memory -/
def furH (h : HD) (l : List Int) (lines cntT : Nat) (line : List Int) (LV : Value) (cr : Bool) : HM := hmOf (furV h l).1 lines cntT line LV cr
set_option maxRecDepth 100000 in
theorem let_ascii {m : List Int} (h : nmB m = true) (hm : Byt m) : ∀ c ∈ m, 0 ≤ c ∧ c < 128 := fun c hc => by
  have h0 := hm c hc
  unfold nmB at h
  simp only [Bool.and_eq_true, List.all_eq_true] at h
  have := h.2.2 c hc
  rw [letB_eq] at this
  unfold smB lgB at this
  simp at this
  omega
set_option maxRecDepth 100000 in
set_option maxHeartbeats 1000000 in
theorem wfur_any (B g : Nat) (own : Nat → Prop) (h : HD) (l : List Int) (lines cntT : Nat) (line : List Int) (LV : Value) (cr : Bool) (w : World) (hm : Hm w g own (hmOf h lines cntT line LV cr)) (hl : Byt l) (hll : l.length ≤ 1000000) (he : Env B w) (hB : B ≤ w.heap.size) :
    Calls Tryz.prog 57 #[.pointer (some ⟨g, 1, none⟩), .string (strOf l)] w fun e w' => e = .returned (.int .i64 (furV h l).2) ∧ Hm w' g own (furH h l lines cntT line LV cr) ∧ Kept own w w' := by
  have C0 : Hid (Calls Tryz.prog 68 #[.string (strOf l), .string ⟨#[58, 32]⟩] w fun e w' => e = .returned (.tuple #[.string ⟨(Lib.cut (l.map u8I) [58, 32]).1.toArray⟩, .string ⟨(Lib.cut (l.map u8I) [58, 32]).2.1.toArray⟩, .bool (Lib.cut (l.map u8I) [58, 32]).2.2]) ∧ ∃ n, w' = w.drewN n) := cut_any2 l w B he hll
  have HH := Bx.mk hm
  have HENV := Bx.mk he
  have HBB := Bx.mk hB
  clear hm he hB
  rcases cut_nam l hl with ⟨i, h1, h2, h3, h4⟩ | ⟨h1, h2⟩
  · rw [h4] at C0
    have C1 : Hid (Calls Tryz.prog 68 #[.string (strOf l), .string ⟨#[58, 32]⟩] w fun e w' => e = .returned (.tuple #[.string (strOf (l.take i)), .string (strOf (l.drop (i + 2))), .bool true]) ∧ ∃ n, w' = w.drewN n) := C0
    have hbt : Byt (l.take i) := hl.take i
    have hbd : Byt (l.drop (i + 2)) := fun c hc => hl c (List.mem_of_mem_drop hc)
    have C2 : Hid (∀ w', Calls Tryz.prog 69 #[.string (strOf (l.take i))] w' fun e w'' => e = .returned (.bool true) ∧ w'' = w') := fun w' => by have := wname_any (l.take i) w' hbt (by rw [List.length_take]; omega); rwa [h3] at this
    have C3 : Hid (∀ w', Calls Tryz.prog 70 #[.string (strOf (l.take i))] w' fun e w'' => e = .returned (.string (strOf ((l.take i).map lowB))) ∧ Below w'.heap.size w' w'') := fun w' => lower_any (l.take i) w' (let_ascii h3 hbt) (by rw [List.length_take]; omega)
    have HF : Bx (furV h l = sayV h ((l.take i).map lowB) (l.drop (i + 2))) := ⟨by unfold furV; rw [h1]⟩
    have hvl : (l.drop (i + 2)).length ≤ 1000000 := by rw [List.length_drop]; omega
    have hnb := low_byt hbt
    have HBD := Bx.mk hbd
    clear C0 h4 h1 h3 h2 hbt hbd
    generalize l.drop (i + 2) = v at *
    generalize (l.take i).map lowB = nm at *
    have e1 : ((strOf nm).toList == [97, 117, 116, 104, 111, 114, 105, 122, 97, 116, 105, 111, 110]) = decide (nm = authN) := lit_eq hnb authN (byt_dec (by decide)) _ rfl
    have e2 : ((strOf nm).toList == [99, 111, 110, 116, 101, 110, 116, 45, 108, 101, 110, 103, 116, 104]) = decide (nm = lenN) := lit_eq hnb lenN (byt_dec (by decide)) _ rfl
    have e3 : ((strOf nm).toList == [116, 114, 97, 110, 115, 102, 101, 114, 45, 101, 110, 99, 111, 100, 105, 110, 103]) = decide (nm = encN) := lit_eq hnb encN (byt_dec (by decide)) _ rfl
    generalize hsn : strOf nm = sn at *
    clear hsn hnb
    generalize strOf (l.take i) = st at *
    generalize hsv : strOf v = sw at C1
    have HSV := Bx.mk hsv
    clear hsv
    by_cases n1 : nm = authN
    · rw [decide_eq_true n1] at e1
      have HG : Bx (furV h l = sayV h authN v) := ⟨by rw [HF.out, n1]⟩
      clear e2 e3 n1 HF
      go_enter Tryz.func57, Tryz.ntmps57
      go_wp2_with fail
      refine C1.out.mono ?_
      rintro e w1 ⟨rfl, n, rfl⟩
      go_wp2_with fail
      refine (C2.out _).mono ?_
      rintro e w' ⟨rfl, rfl⟩
      go_wp2_with fail
      refine (C3.out _).mono ?_
      rintro e w2 ⟨rfl, hb⟩
      have HK : Bx (Below w.heap.size w w2) := ⟨bstep (a := w) (b := w.drewN n) (below_drewN (Below.refl _ _) n) hb⟩
      clear hb
      go_wp2_with fail
      rw [← HSV.out]
      refine (wauth_any g own h v lines cntT line LV cr _ (HH.out.below HK.out) HBD.out).mono ?_
      rintro e w3 ⟨rfl, hm3, hk3⟩
      have HM3 := Bx.mk hm3
      have HK3 := Bx.mk ((Kept.of_below (own := own) HK.out).trans' hk3)
      clear hm3 hk3
      generalize hE : (sayV h authN v).2 = E
      have HE := Bx.mk hE
      clear hE
      go_wp2
      go_ret
      refine ⟨by rw [HG.out, HE.out]; rfl, ?_, HK3.out⟩
      unfold furH; rw [HG.out]; exact HM3.out
    · rw [decide_eq_false n1] at e1
      by_cases n2 : nm = lenN
      · rw [decide_eq_true n2] at e2
        have HG : Bx (furV h l = sayV h lenN v) := ⟨by rw [HF.out, n2]⟩
        clear e3 n1 n2 HF
        go_enter Tryz.func57, Tryz.ntmps57
        go_wp2_with fail
        refine C1.out.mono ?_
        rintro e w1 ⟨rfl, n, rfl⟩
        go_wp2_with fail
        refine (C2.out _).mono ?_
        rintro e w' ⟨rfl, rfl⟩
        go_wp2_with fail
        refine (C3.out _).mono ?_
        rintro e w2 ⟨rfl, hb⟩
        have HK : Bx (Below w.heap.size w w2) := ⟨bstep (a := w) (b := w.drewN n) (below_drewN (Below.refl _ _) n) hb⟩
        clear hb
        go_wp2_with fail
        rw [← HSV.out]
        refine (wmeas_any B g own h v lines cntT line LV cr _ (HH.out.below HK.out) HBD.out hvl (HENV.out.below (HK.out.mono HBB.out))).mono ?_
        rintro e w3 ⟨rfl, hm3, hk3⟩
        have HM3 := Bx.mk hm3
        have HK3 := Bx.mk ((Kept.of_below (own := own) HK.out).trans' hk3)
        clear hm3 hk3
        generalize hE : (sayV h lenN v).2 = E
        have HE := Bx.mk hE
        clear hE
        go_wp2
        go_ret
        refine ⟨by rw [HG.out, HE.out]; rfl, ?_, HK3.out⟩
        unfold furH; rw [HG.out]; exact HM3.out
      · rw [decide_eq_false n2] at e2
        by_cases n3 : nm = encN
        · rw [decide_eq_true n3] at e3
          have HG : Bx (furV h l = sayV h encN v) := ⟨by rw [HF.out, n3]⟩
          clear n1 n2 n3 HF
          go_enter Tryz.func57, Tryz.ntmps57
          go_wp2_with fail
          refine C1.out.mono ?_
          rintro e w1 ⟨rfl, n, rfl⟩
          go_wp2_with fail
          refine (C2.out _).mono ?_
          rintro e w' ⟨rfl, rfl⟩
          go_wp2_with fail
          refine (C3.out _).mono ?_
          rintro e w2 ⟨rfl, hb⟩
          have HK : Bx (Below w.heap.size w w2) := ⟨bstep (a := w) (b := w.drewN n) (below_drewN (Below.refl _ _) n) hb⟩
          clear hb
          go_wp2_with fail
          rw [← HSV.out]
          refine (wpart_any g own h v lines cntT line LV cr _ (HH.out.below HK.out) HBD.out).mono ?_
          rintro e w3 ⟨rfl, hm3, hk3⟩
          have HM3 := Bx.mk hm3
          have HK3 := Bx.mk ((Kept.of_below (own := own) HK.out).trans' hk3)
          clear hm3 hk3
          generalize hE : (sayV h encN v).2 = E
          have HE := Bx.mk hE
          clear hE
          go_wp2
          go_ret
          refine ⟨by rw [HG.out, HE.out]; rfl, ?_, HK3.out⟩
          unfold furH; rw [HG.out]; exact HM3.out
        · rw [decide_eq_false n3] at e3
          have HG : Bx (furV h l = (h, 0)) := ⟨by rw [HF.out]; unfold sayV; rw [if_neg n1, if_neg n3, if_neg n2]⟩
          clear n1 n2 n3 HF
          go_enter Tryz.func57, Tryz.ntmps57
          go_wp2_with fail
          refine C1.out.mono ?_
          rintro e w1 ⟨rfl, n, rfl⟩
          go_wp2_with fail
          refine (C2.out _).mono ?_
          rintro e w' ⟨rfl, rfl⟩
          go_wp2_with fail
          refine (C3.out _).mono ?_
          rintro e w2 ⟨rfl, hb⟩
          have HK : Bx (Below w.heap.size w w2) := ⟨bstep (a := w) (b := w.drewN n) (below_drewN (Below.refl _ _) n) hb⟩
          clear hb
          go_wp2
          go_ret
          refine ⟨by rw [HG.out]; rfl, ?_, Kept.of_below HK.out⟩
          unfold furH; rw [HG.out]; exact HH.out.below HK.out
  · have HF : Bx (furV h l = (h, 4)) := ⟨by unfold furV; rw [h1]⟩
    clear h1
    rcases h2 with h2 | ⟨i, hi, h3, h4⟩
    · rw [h2] at C0
      have C1 : Hid (Calls Tryz.prog 68 #[.string (strOf l), .string ⟨#[58, 32]⟩] w fun e w' => e = .returned (.tuple #[.string (strOf l), .string ⟨#[]⟩, .bool false]) ∧ ∃ n, w' = w.drewN n) := C0
      clear C0 h2
      generalize strOf l = s at C1
      go_enter Tryz.func57, Tryz.ntmps57
      go_wp2_with fail
      refine C1.out.mono ?_
      rintro e w1 ⟨rfl, n, rfl⟩
      go_wp2
      go_ret
      refine ⟨by rw [HF.out]; rfl, ?_, (Kept.refl _ _).drewN _⟩
      unfold furH; rw [HF.out]; exact HH.out.drewN n
    · rw [h4] at C0
      have C1 : Hid (Calls Tryz.prog 68 #[.string (strOf l), .string ⟨#[58, 32]⟩] w fun e w' => e = .returned (.tuple #[.string (strOf (l.take i)), .string (strOf (l.drop (i + 2))), .bool true]) ∧ ∃ n, w' = w.drewN n) := C0
      have C2 : Hid (∀ w', Calls Tryz.prog 69 #[.string (strOf (l.take i))] w' fun e w'' => e = .returned (.bool false) ∧ w'' = w') := fun w' => by have := wname_any (l.take i) w' (hl.take i) (by rw [List.length_take]; omega); rwa [h3] at this
      clear C0 h4 h3 hi
      generalize strOf (l.take i) = st at *
      generalize strOf (l.drop (i + 2)) = sw at *
      generalize strOf l = s at C1
      go_enter Tryz.func57, Tryz.ntmps57
      go_wp2_with fail
      refine C1.out.mono ?_
      rintro e w1 ⟨rfl, n, rfl⟩
      go_wp2_with fail
      refine (C2.out _).mono ?_
      rintro e w' ⟨rfl, rfl⟩
      go_wp2
      go_ret
      refine ⟨by rw [HF.out]; rfl, ?_, (Kept.refl _ _).drewN _⟩
      unfold furH; rw [HF.out]; exact HH.out.drewN n
end Go.Proofs.YtpfijaojgeceeaaGreatDoor
namespace Go.Proofs.YtpfijaojgeceeaaGreatDoor
open Go.RowKit
set_option linter.unusedVariables false

def fstE (l : List Int) : Int := match fstV l with | none => 4 | some _ => 0
def fstH (h : HD) (l : List Int) : HD := match fstV l with | none => h | some (m, t) => { h with m := m, t := t }
set_option maxRecDepth 100000 in
theorem pcs_byt (c : Int) : ∀ (l : List Int), Byt l → ∀ p ∈ pcsI c l, Byt p ∧ p.length ≤ l.length
  | [], _, p, hp => by
    simp [pcsI] at hp
    subst hp
    exact ⟨Byt.nil, Nat.le_refl _⟩
  | a :: r, hl, p, hp => by
    have ih := pcs_byt c r (fun d hd => hl d (by simp [hd]))
    have ha := hl a (by simp)
    unfold pcsI at hp
    split at hp
    · rcases List.mem_cons.1 hp with rfl | hp
      · exact ⟨Byt.nil, by simp⟩
      · have := ih p hp; exact ⟨this.1, by simp; omega⟩
    · split at hp
      · rename_i q qs he
        rcases List.mem_cons.1 hp with rfl | hp
        · have := ih q (by rw [he]; simp); exact ⟨Byt.cons ha this.1, by simp; omega⟩
        · have := ih p (by rw [he]; simp [hp]); exact ⟨this.1, by simp; omega⟩
      · simp at hp; subst hp; exact ⟨Byt.cons ha Byt.nil, by simp⟩
set_option maxRecDepth 100000 in
theorem sv_get (P : List ByteArray) (j : Nat) : (svT P)[j]? = (P[j]?).map Value.string := by unfold svT; rw [List.getElem?_map]
set_option maxRecDepth 100000 in
set_option maxHeartbeats 1000000 in
theorem wfirst_any (g : Nat) (own : Nat → Prop) (h : HD) (l : List Int) (cntT : Nat) (line : List Int) (LV : Value) (cr : Bool) (w : World) (hm : Hm w g own (hmOf h 0 cntT line LV cr)) (hl : Byt l) (hll : l.length ≤ 1000000) :
    Calls Tryz.prog 56 #[.pointer (some ⟨g, 1, none⟩), .string (strOf l)] w fun e w' => e = .returned (.int .i64 (fstE l)) ∧ Hm w' g own (hmOf (fstH h l) 0 cntT line LV cr) ∧ Kept own w w' := by
  have C0 : Hid (Calls Tryz.prog 18 #[.string (strOf l), .int .u8 32, .int .i64 3] w (FP (cb 32) (strOf l) 3 w)) := fields_any (strOf l) 32 3 w (by rw [strOf_size]; omega)
  unfold FP fOk fL at C0
  rw [pcs_link 32 (by decide) l hl] at C0
  have HH := Bx.mk hm
  have HB := Bx.mk (pcs_byt 32 l hl)
  have hgl := hm.lt g hm.og
  clear hm
  by_cases h3 : (pcsI 32 l).length = 3
  · obtain ⟨m, t, v, hp⟩ : ∃ m t v, pcsI 32 l = [m, t, v] := by
      match hq : pcsI 32 l, h3 with
      | [m, t, v], _ => exact ⟨m, t, v, rfl⟩
    rw [hp] at C0 HB
    have hbm := HB.out m (by simp)
    have hbt := HB.out t (by simp)
    have hbv := HB.out v (by simp)
    have HV : Bx (fstV l = if v = versM ∧ (m = getM ∨ m = postM ∨ m = putM) ∧ tgB t = true then some (strOf m, strOf t) else none) := ⟨by unfold fstV; rw [hp]⟩
    rw [if_pos (by simp)] at C0
    have C1 : Hid (∀ wr, Calls Tryz.prog 66 #[.string (strOf m)] wr fun e w' => e = .returned (.bool (mthB m)) ∧ w' = wr) := fun wr => wmethod_any m wr hbm.1
    have C2 : Hid (∀ wr, Calls Tryz.prog 67 #[.string (strOf t)] wr fun e w' => e = .returned (.bool (tgB t)) ∧ w' = wr) := fun wr => wtarget_any t wr hbt.1 (by omega)
    have e3 : ((strOf v).toList == [72, 84, 84, 80, 47, 49, 46, 49]) = decide (v = versM) := lit_eq hbv.1 versM (byt_dec (by decide)) _ rfl
    have HMT : Bx ((mthB m = true) ↔ (m = getM ∨ m = postM ∨ m = putM)) := ⟨by unfold mthB; simp only [Bool.or_eq_true, decide_eq_true_eq]; exact ⟨fun h => by rcases h with h | h | h <;> simp [h], fun h => by rcases h with h | h | h <;> simp [h]⟩⟩
    have HVB : Bx (fstV l = if (mthB m && tgB t && decide (v = versM)) = true then some (strOf m, strOf t) else none) := ⟨by
      have hi : (v = versM ∧ (m = getM ∨ m = postM ∨ m = putM) ∧ tgB t = true) ↔ ((mthB m && tgB t && decide (v = versM)) = true) := by
        rw [← HMT.out]
        simp only [Bool.and_eq_true, decide_eq_true_eq]
        exact ⟨fun ⟨a, b, c⟩ => ⟨⟨b, c⟩, a⟩, fun ⟨⟨b, c⟩, a⟩ => ⟨a, b, c⟩⟩
      rw [HV.out]
      by_cases hz : v = versM ∧ (m = getM ∨ m = postM ∨ m = putM) ∧ tgB t = true
      · rw [if_pos hz, if_pos (hi.1 hz)]
      · rw [if_neg hz, if_neg (fun k => hz (hi.2 k))]⟩
    generalize mthB m = b1 at C1 HVB
    generalize tgB t = b2 at C2 HVB
    generalize decide (v = versM) = b3 at e3 HVB
    simp only [List.map_cons, List.map_nil] at C0
    clear hp h3 hbm hbt hbv HV HMT HB
    generalize hsm : strOf m = sm at *
    generalize hst : strOf t = st at *
    generalize hsv : strOf v = sw at *
    generalize strOf l = s at *
    clear hsm hst hsv
    -- the three pieces lie in a new row
    cases b1 with
    | false =>
      have HE : Bx (fstV l = none) := ⟨by rw [HVB.out]; rfl⟩
      go_enter Tryz.func56, Tryz.ntmps56
      go_wp2_with fail
      refine C0.out.mono ?_
      rintro e w1 ⟨vv, rfl, ho, hb⟩
      have HB1 := Bx.mk hb
      obtain ⟨g2, cap, rfl, hg2, _⟩ := owns_form ho (by simp)
      have d0 : w1.cell? ⟨g2, 0, none⟩ = some (.string sm) := by rw [ho.cellAt 0 (by simp)]; rfl
      have d1 : w1.cell? ⟨g2, 1, none⟩ = some (.string st) := by rw [ho.cellAt 1 (by simp)]; rfl
      have d2 : w1.cell? ⟨g2, 2, none⟩ = some (.string sw) := by rw [ho.cellAt 2 (by simp)]; rfl
      have hne : g2 ≠ g := by omega
      clear ho hb
      go_wp2_with fail
      refine (C1.out _).mono ?_
      rintro e w' ⟨rfl, rfl⟩
      go_wp2
      go_ret
      refine ⟨by unfold fstE; rw [HE.out]; rfl, ?_, Kept.of_below HB1.out⟩
      unfold fstH; rw [HE.out]; exact HH.out.below HB1.out
    | true =>
      cases b2 with
      | false =>
        have HE : Bx (fstV l = none) := ⟨by rw [HVB.out]; rfl⟩
        go_enter Tryz.func56, Tryz.ntmps56
        go_wp2_with fail
        refine C0.out.mono ?_
        rintro e w1 ⟨vv, rfl, ho, hb⟩
        have HB1 := Bx.mk hb
        obtain ⟨g2, cap, rfl, hg2, _⟩ := owns_form ho (by simp)
        have d0 : w1.cell? ⟨g2, 0, none⟩ = some (.string sm) := by rw [ho.cellAt 0 (by simp)]; rfl
        have d1 : w1.cell? ⟨g2, 1, none⟩ = some (.string st) := by rw [ho.cellAt 1 (by simp)]; rfl
        have d2 : w1.cell? ⟨g2, 2, none⟩ = some (.string sw) := by rw [ho.cellAt 2 (by simp)]; rfl
        have hne : g2 ≠ g := by omega
        clear ho hb
        go_wp2_with fail
        refine (C1.out _).mono ?_
        rintro e w' ⟨rfl, rfl⟩
        go_wp2_with fail
        refine (C2.out _).mono ?_
        rintro e w' ⟨rfl, rfl⟩
        go_wp2
        go_ret
        refine ⟨by unfold fstE; rw [HE.out]; rfl, ?_, Kept.of_below HB1.out⟩
        unfold fstH; rw [HE.out]; exact HH.out.below HB1.out
      | true =>
        cases b3 with
        | false =>
          have HE : Bx (fstV l = none) := ⟨by rw [HVB.out]; rfl⟩
          go_enter Tryz.func56, Tryz.ntmps56
          go_wp2_with fail
          refine C0.out.mono ?_
          rintro e w1 ⟨vv, rfl, ho, hb⟩
          have HB1 := Bx.mk hb
          obtain ⟨g2, cap, rfl, hg2, _⟩ := owns_form ho (by simp)
          have d0 : w1.cell? ⟨g2, 0, none⟩ = some (.string sm) := by rw [ho.cellAt 0 (by simp)]; rfl
          have d1 : w1.cell? ⟨g2, 1, none⟩ = some (.string st) := by rw [ho.cellAt 1 (by simp)]; rfl
          have d2 : w1.cell? ⟨g2, 2, none⟩ = some (.string sw) := by rw [ho.cellAt 2 (by simp)]; rfl
          have hne : g2 ≠ g := by omega
          clear ho hb
          go_wp2_with fail
          refine (C1.out _).mono ?_
          rintro e w' ⟨rfl, rfl⟩
          go_wp2_with fail
          refine (C2.out _).mono ?_
          rintro e w' ⟨rfl, rfl⟩
          go_wp2
          go_ret
          refine ⟨by unfold fstE; rw [HE.out]; rfl, ?_, Kept.of_below HB1.out⟩
          unfold fstH; rw [HE.out]; exact HH.out.below HB1.out
        | true =>
          have HE : Bx (fstV l = some (sm, st)) := ⟨by rw [HVB.out]; rfl⟩
          go_enter Tryz.func56, Tryz.ntmps56
          go_wp2_with fail
          refine C0.out.mono ?_
          rintro e w1 ⟨vv, rfl, ho, hb⟩
          have HB1 := Bx.mk hb
          obtain ⟨g2, cap, rfl, hg2, _⟩ := owns_form ho (by simp)
          have d0 : w1.cell? ⟨g2, 0, none⟩ = some (.string sm) := by rw [ho.cellAt 0 (by simp)]; rfl
          have d1 : w1.cell? ⟨g2, 1, none⟩ = some (.string st) := by rw [ho.cellAt 1 (by simp)]; rfl
          have d2 : w1.cell? ⟨g2, 2, none⟩ = some (.string sw) := by rw [ho.cellAt 2 (by simp)]; rfl
          have hne : g2 ≠ g := by omega
          clear ho hb
          go_wp2_with fail
          refine (C1.out _).mono ?_
          rintro e w' ⟨rfl, rfl⟩
          go_wp2_with fail
          refine (C2.out _).mono ?_
          rintro e w' ⟨rfl, rfl⟩
          have HH2 : Bx (Hm w' g own (hmOf h 0 cntT line LV cr)) := ⟨HH.out.below HB1.out⟩
          have c4 := HH2.out.c4
          have f4 := HH2.out.fz 4
          have c5 := (HH2.out.sM sm).c5
          have f5 := (HH2.out.sM sm).fz 5
          have HF : Bx (Hm ((w'.setCell ⟨g, 4, none⟩ (.string sm)).setCell ⟨g, 5, none⟩ (.string st)) g own (hmOf (fstH h l) 0 cntT line LV cr) ∧ Kept own w ((w'.setCell ⟨g, 4, none⟩ (.string sm)).setCell ⟨g, 5, none⟩ (.string st))) := ⟨by
            refine ⟨?_, (HH2.out.sM sm).kset' (HH2.out.kset' (Kept.of_below HB1.out) _ _) _ _⟩
            have h5 := (HH2.out.sM sm).sT st
            unfold fstH; rw [HE.out]; exact h5⟩
          go_wp2_with fail
          go_region
          go_wp2
          go_ret
          exact ⟨by unfold fstE; rw [HE.out]; rfl, Bk.keep HF.out.1 (fun _ _ => rfl) (Nat.le_refl _), HF.out.2.drew⟩
  · have HE : Bx (fstV l = none) := ⟨by
      unfold fstV
      match hq : pcsI 32 l, h3 with
      | [], _ => rfl
      | [_], _ => rfl
      | [_, _], _ => rfl
      | [_, _, _], h => exact absurd rfl h
      | _ :: _ :: _ :: _ :: _, _ => rfl⟩
    generalize hq : (pcsI 32 l).map strOf = P at C0
    have hqn : ¬ P.length = 3 := by rw [← hq, List.length_map]; exact h3
    have hfl : ¬ (if (P.length : Int) ≤ 3 then P else []).length = 3 := by
      split
      · exact hqn
      · simp
    generalize (if (P.length : Int) ≤ 3 then P else []) = F at C0 hfl
    generalize decide ((P.length : Int) ≤ 3) = D at C0
    clear hq hqn h3 HB
    have hfi : ((F.length : Int) != 3) = true := by simp; omega
    clear hfl
    go_enter Tryz.func56, Tryz.ntmps56
    go_wp2_with fail
    refine C0.out.mono ?_
    rintro e w1 ⟨vv, rfl, ho, hb⟩
    have HB1 := Bx.mk hb
    obtain ⟨ao, cap, rfl⟩ := owns_slice ho
    clear ho hb
    go_wp2
    go_ret
    refine ⟨by unfold fstE; rw [HE.out]; rfl, ?_, Kept.of_below HB1.out⟩
    unfold fstH; rw [HE.out]; exact HH.out.below HB1.out
end Go.Proofs.YtpfijaojgeceeaaGreatDoor
namespace Go.Proofs.YtpfijaojgeceeaaGreatDoor
open Go.RowKit
set_option linter.unusedVariables false

set_option maxRecDepth 100000 in
theorem furV_m (h : HD) (l : List Int) : (furV h l).1.m = h.m := by
  unfold furV
  cases namI l with
  | none => rfl
  | some i =>
    simp only
    unfold sayV
    repeat' split
    all_goals rfl
set_option maxRecDepth 100000 in
theorem furV_n (h : HD) (l : List Int) (hn : h.n ≤ 2048) : (furV h l).1.n ≤ 2048 := by
  unfold furV
  cases namI l with
  | none => exact hn
  | some i =>
    simp only
    unfold sayV
    repeat' split
    all_goals first | exact hn | (simp only; omega)
set_option maxRecDepth 100000 in
theorem fst_m {l : List Int} {m t : ByteArray} (h : fstV l = some (m, t)) : m.size ≠ 0 := by
  unfold fstV at h
  split at h
  · split at h
    · rename_i hc
      cases h
      rw [strOf_size]
      rcases hc.2.1 with h | h | h <;> subst h <;> decide
    · cases h
  · cases h
/-- what holds of a head at all times -/
structure HI (h : HD) (lines cntT : Nat) (line : List Int) (cr : Bool) : Prop where
  ct : cntT ≤ 1024
  le : line.length ≤ cntT
  lb : ∀ c ∈ line, 32 ≤ c ∧ c ≤ 126
  m0 : lines = 0 → h.m.size = 0
  m1 : lines ≠ 0 → h.m.size ≠ 0
  l17 : lines ≤ 17
  n : h.n ≤ 2048
set_option maxRecDepth 100000 in
theorem HI.byt {h : HD} {lines cntT : Nat} {line : List Int} {cr : Bool} (hi : HI h lines cntT line cr) : Byt line := fun c hc => by have := hi.lb c hc; omega
/-- where a line's end leads -/
def ended (lines : Nat) (l : List Int) : Bool := decide (lines ≠ 0 ∧ l = [])
/-- what a line's end makes -/
def EndP (g : Nat) (own : Nat → Prop) (h : HD) (lines cntT : Nat) (l : List Int) (LV : Value) (w w' : World) : Prop :=
  Kept own w w' ∧ (∃ H, Hm w' g own H) ∧
  ((eol wp0 h lines cntT l).2 = 0 → ended lines l = false → ∃ h2 l2, (eol wp0 h lines cntT l).1 = .head h2 l2 cntT [] ∧ HI h2 l2 cntT [] false ∧ Hm w' g own (hmOf h2 l2 cntT [] LV false)) ∧
  (ended lines l = true → (eol wp0 h lines cntT l) = (bgQ h, 0) ∧ Hm w' g own (hmOf h lines cntT [] LV false))
set_option maxRecDepth 100000 in
theorem size_zero {s : ByteArray} (h : s.size = 0) : s = ⟨#[]⟩ := by
  obtain ⟨⟨l⟩⟩ := s
  cases l with
  | nil => rfl
  | cons _ _ => exact absurd h (by show ¬ _ + 1 = 0; omega)
set_option maxRecDepth 100000 in
theorem toList_size (s : ByteArray) : s.toList.length = s.size := by rw [Lib.toList_data, ← Lib.size_eq]
set_option maxRecDepth 100000 in
theorem empty_iff (s : ByteArray) : s.toList.isEmpty = decide (s.size = 0) := by
  rw [← toList_size]
  cases s.toList <;> simp
set_option maxRecDepth 100000 in
set_option maxHeartbeats 1000000 in
theorem wend_any (B g : Nat) (own : Nat → Prop) (h : HD) (l : List Int) (lines cntT : Nat) (LV : Value) (w : World) (hm : Hm w g own (hmOf h lines cntT [] LV false)) (hi : HI h lines cntT [] false) (hl : Byt l) (hll : l.length ≤ 1000000) (he : Env B w) (hB : B ≤ w.heap.size) (hOw : ∀ k, own k → B ≤ k) :
    Calls Tryz.prog 43 #[.pointer (some ⟨g, 1, none⟩), .string (strOf l)] w fun e w' => e = .returned (.tuple #[.bool (ended lines l), .int .i64 (eol wp0 h lines cntT l).2]) ∧ EndP g own h lines cntT l LV w w' := by
  have c4 : w.cell? ⟨g, 4, none⟩ = some (.string h.m) := hm.c4
  have c8 : w.cell? ⟨g, 8, none⟩ = some (.int .i64 ((lines - 1 : Nat) : Int)) := hm.c8
  have f8 := hm.fz 8
  have HH := Bx.mk hm
  have HI' := Bx.mk hi
  have HENV := Bx.mk he
  have e4 := empty_iff h.m
  have e1 := empty_iff (strOf l)
  rw [strOf_size] at e1
  clear he hm
  by_cases h0 : lines = 0
  · subst h0
    have HE : Bx (eol wp0 h 0 cntT l = match fstV l with | none => (.head h 0 cntT l, 4) | some (m, t) => (.head { h with m := m, t := t } 1 cntT [], 0)) := ⟨rfl⟩
    rw [decide_eq_true (hi.m0 rfl)] at e4
    have HEN : Bx (ended 0 l = false) := ⟨by unfold ended; simp⟩
    generalize h.m = M at c4 e4
    clear e1 hi
    go_enter Tryz.func43, Tryz.ntmps43
    go_wp2_with fail
    refine (wfirst_any g own h l cntT [] LV false _ HH.out hl hll).mono ?_
    rintro e w1 ⟨rfl, hm1, hk1⟩
    have HM1 := Bx.mk hm1
    have HK1 := Bx.mk hk1
    clear hm1 hk1
    generalize hfe : fstE l = FE
    have HFE := Bx.mk hfe
    clear hfe
    go_wp2
    go_ret2
    refine ⟨?_, HK1.out, ⟨_, HM1.out⟩, fun h1 h2 => ?_, fun h1 => by rw [HEN.out] at h1; cases h1⟩
    · rw [HEN.out, HE.out, ← HFE.out]
      unfold fstE
      cases fstV l with
      | none => rfl
      | some mt => rfl
    · rw [HE.out] at h1 ⊢
      cases hf : fstV l with
      | none => rw [hf] at h1; simp at h1
      | some mt =>
        obtain ⟨m, t⟩ := mt
        refine ⟨{ h with m := m, t := t }, 1, rfl, ⟨HI'.out.ct, Nat.zero_le _, fun c hc => (by cases hc), fun hh => (by cases hh), fun _ => fst_m hf, by decide, HI'.out.n⟩, ?_⟩
        have h9 := HM1.out
        unfold fstH at h9
        rw [hf] at h9
        exact h9
  · rw [decide_eq_false (hi.m1 h0)] at e4
    generalize h.m = M at c4 e4
    by_cases h1 : l = []
    · have HE : Bx (eol wp0 h lines cntT l = (bgQ h, 0)) := ⟨by unfold eol; rw [if_neg h0, if_pos h1]⟩
      have HEN : Bx (ended lines l = true) := ⟨by unfold ended; simp [h0, h1]⟩
      rw [decide_eq_true (by rw [h1]; rfl)] at e1
      generalize strOf l = s at e1
      clear h1 hi
      go_enter Tryz.func43, Tryz.ntmps43
      go_wp2
      go_ret2
      exact ⟨by rw [HEN.out, HE.out]; rfl, Kept.refl _ _, ⟨_, HH.out⟩, fun _ h2 => (by rw [HEN.out] at h2; cases h2), fun _ => ⟨HE.out, HH.out⟩⟩
    · have HEN : Bx (ended lines l = false) := ⟨by unfold ended; simp [h1]⟩
      rw [decide_eq_false (by intro hh; exact h1 (List.eq_nil_of_length_eq_zero hh))] at e1
      by_cases h2 : 17 ≤ lines
      · have HE : Bx (eol wp0 h lines cntT l = (.head h lines cntT l, 5)) := ⟨by unfold eol; rw [if_neg h0, if_neg h1, if_pos h2]⟩
        have h17 := hi.l17
        have g1 : (((lines - 1 : Nat) : Int) == 16) = true := by simp; omega
        generalize ((lines - 1 : Nat) : Int) = FU at c8 g1
        generalize strOf l = s at e1
        clear h1 h2 hi h17
        go_enter Tryz.func43, Tryz.ntmps43
        go_wp2
        go_ret2
        exact ⟨by rw [HEN.out, HE.out]; rfl, Kept.refl _ _, ⟨_, HH.out⟩, fun h3 _ => (by rw [HE.out] at h3; simp at h3), fun h3 => (by rw [HEN.out] at h3; cases h3)⟩
      · have HE : Bx (eol wp0 h lines cntT l = (.head (furV h l).1 (lines + 1) cntT [], (furV h l).2)) := ⟨by unfold eol; rw [if_neg h0, if_neg h1, if_neg h2]; rfl⟩
        have g1 : (((lines - 1 : Nat) : Int) == 16) = false := by simp; omega
        have HM0 : Bx (Hm (w.setCell ⟨g, 8, none⟩ (.int .i64 (((lines - 1 : Nat) : Int) + 1))) g own (hmOf h (lines + 1) cntT [] LV false)) := ⟨by
          have h9 := HH.out.sFu (((lines - 1 : Nat) : Int) + 1)
          have h8 : ((lines - 1 : Nat) : Int) + 1 = ((lines + 1 - 1 : Nat) : Int) := by omega
          rw [h8] at h9 ⊢
          exact h9⟩
        have HK0 : Bx (Kept own w (w.setCell ⟨g, 8, none⟩ (.int .i64 (((lines - 1 : Nat) : Int) + 1)))) := ⟨HH.out.kset _ _⟩
        have b0 : 0 ≤ ((lines - 1 : Nat) : Int) := by omega
        have b1 : ((lines - 1 : Nat) : Int) ≤ 16 := by omega
        have HNI : Bx (lines ≤ 16 ∧ (furV h l).1.m.size ≠ 0 ∧ (furV h l).1.n ≤ 2048) := ⟨by omega, by rw [furV_m]; exact hi.m1 h0, furV_n h l hi.n⟩
        generalize ((lines - 1 : Nat) : Int) = FU at c8 g1 HM0 HK0 b0 b1
        generalize hsl : strOf l = s at e1
        have HSL := Bx.mk hsl
        clear h1 h2 hi hsl
        go_enter Tryz.func43, Tryz.ntmps43
        go_wp2_with fail
        rw [← HSL.out]
        refine (wfur_any B g own h l (lines + 1) cntT [] LV false _ HM0.out hl hll (HENV.out.kept HK0.out hOw hB) (by have := HK0.out.size; omega)).mono ?_
        rintro e w1 ⟨rfl, hm1, hk1⟩
        have HM1 := Bx.mk hm1
        have HK1 := Bx.mk (HK0.out.trans' hk1)
        clear hm1 hk1
        generalize hfe : (furV h l).2 = FE
        have HFE := Bx.mk hfe
        clear hfe
        go_wp2
        go_ret2
        refine ⟨by rw [HEN.out, HE.out, HFE.out]; rfl, HK1.out, ⟨_, HM1.out⟩, fun h3 _ => ?_, fun h3 => (by rw [HEN.out] at h3; cases h3)⟩
        refine ⟨(furV h l).1, lines + 1, by rw [HE.out], ⟨HI'.out.ct, Nat.zero_le _, fun c hc => (by cases hc), fun hh => (by omega), fun _ => HNI.out.2.1, by have := HNI.out.1; omega, HNI.out.2.2⟩, HM1.out⟩
end Go.Proofs.YtpfijaojgeceeaaGreatDoor
namespace Go.Proofs.YtpfijaojgeceeaaGreatDoor
open Go.RowKit
set_option linter.unusedVariables false

def crL (line : List Int) (cr : Bool) : List Int := if cr = true then line ++ [13] else line
set_option maxRecDepth 100000 in
theorem crL_bhd {line : List Int} (hb : ∀ c ∈ line, 32 ≤ c ∧ c ≤ 126) (cr : Bool) : bhd (crL line cr) = cr := by
  unfold bhd crL
  cases cr with
  | true => simp
  | false =>
    rw [if_neg (by decide)]
    cases hl : line.getLast? with
    | none => rfl
    | some c =>
      have := hb c (List.mem_of_getLast? hl)
      simp
      omega
set_option maxRecDepth 100000 in
theorem crL_drop (line : List Int) : (crL line true).dropLast = line := by unfold crL; rw [if_pos rfl, List.dropLast_concat]
/-- the head ends here -/
def hend (lines cntT : Nat) (line : List Int) (cr : Bool) (b : Int) : Bool := decide (cntT < 1024) && (cr && (decide (b = 10) && ended lines line))
def HTP (g : Nat) (own : Nat → Prop) (h : HD) (lines cntT : Nat) (line : List Int) (cr : Bool) (b : Int) (w w' : World) : Prop :=
  ∃ own', Did own w w' own' ∧ (∃ H, Hm w' g own' H) ∧
  ((wst wp0 (.head h lines cntT (crL line cr)) b).2 = 0 → hend lines cntT line cr b = false → ∃ h2 l2 c2 line2 LV2 cr2, (wst wp0 (.head h lines cntT (crL line cr)) b).1 = .head h2 l2 c2 (crL line2 cr2) ∧ HI h2 l2 c2 line2 cr2 ∧ Hm w' g own' (hmOf h2 l2 c2 line2 LV2 cr2)) ∧
  (hend lines cntT line cr b = true → wst wp0 (.head h lines cntT (crL line cr)) b = (bgQ h, 0) ∧ ∃ LV2, Hm w' g own' (hmOf h lines (cntT + 1) [] LV2 false))
set_option maxRecDepth 100000 in
theorem HTP.bad {g : Nat} {own : Nat → Prop} {h : HD} {lines cntT : Nat} {line : List Int} {cr : Bool} {b : Int} {w w' : World} {H : HM} (hd : Did own w w' own) (hm : Hm w' g own H) (h1 : (wst wp0 (.head h lines cntT (crL line cr)) b).2 ≠ 0) (h2 : hend lines cntT line cr b = false) : HTP g own h lines cntT line cr b w w' :=
  ⟨own, hd, ⟨H, hm⟩, fun h3 => absurd h3 h1, fun h3 => by rw [h2] at h3; cases h3⟩
set_option maxRecDepth 100000 in
theorem Hm.cutL {w : World} {g : Nat} {own : Nat → Prop} {H : HM} {a : Option Addr} {n c : Nat} (h : Hm w g own H) (hv : H.LV = .slice a n c) : Hm (w.setCell ⟨g, 2, none⟩ (.slice a 0 c)) g own { H with line := [], LV := .slice a 0 c } := by
  unfold Hm at h
  rw [hv] at h
  have h2 := (Bk.cut h).set 2 (.slice a 0 c)
  have e : (rowH 1 H 0 (.slice none 0 0) (.pointer none)).setIfInBounds 2 (.slice a 0 c) = rowH 1 { H with line := [], LV := .slice a 0 c } 0 (.slice none 0 0) (.pointer none) := rfl
  rw [e] at h2
  exact h2
set_option maxRecDepth 100000 in
theorem wst_head (h : HD) (lines cntT : Nat) (cur : List Int) (b : Int) : wst wp0 (.head h lines cntT cur) b = if 1024 ≤ cntT then (.head h lines cntT cur, 5) else
    if bhd cur = true ∧ b = 10 then eol wp0 h lines (cntT + 1) cur.dropLast else
    if badB cur b = true then (.head h lines cntT cur, 4) else (.head h lines (cntT + 1) (cur ++ [b]), 0) := rfl
set_option maxRecDepth 100000 in
set_option maxHeartbeats 2000000 in
theorem whtake_any (B g : Nat) (own : Nat → Prop) (h : HD) (lines cntT : Nat) (line : List Int) (LV : Value) (cr : Bool) (b : Int) (w : World) (hm : Hm w g own (hmOf h lines cntT line LV cr)) (hi : HI h lines cntT line cr) (hb : 0 ≤ b ∧ b ≤ 255) (he : Env B w) (hB : B ≤ w.heap.size) (hOw : ∀ k, own k → B ≤ k) :
    Calls Tryz.prog 33 #[.pointer (some ⟨g, 1, none⟩), .int .u8 b] w fun e w' => e = .returned (.tuple #[.bool (hend lines cntT line cr b), .int .i64 (wst wp0 (.head h lines cntT (crL line cr)) b).2]) ∧ HTP g own h lines cntT line cr b w w' := by
  have c1 : w.cell? ⟨g, 1, none⟩ = some (.int .i64 (cntT : Int)) := hm.c1
  have f1 := hm.fz 1
  have HH := Bx.mk hm
  have HI' := Bx.mk hi
  have hct := hi.ct
  have HENV := Bx.mk he
  have HBH := Bx.mk (crL_bhd hi.lb cr)
  clear he hm
  by_cases h0 : 1024 ≤ cntT
  · have g1 : ((cntT : Int) == 1024) = true := by simp; omega
    have HE : Bx (wst wp0 (.head h lines cntT (crL line cr)) b = (.head h lines cntT (crL line cr), 5)) := ⟨by rw [wst_head, if_pos h0]⟩
    have HD' : Bx (hend lines cntT line cr b = false) := ⟨by unfold hend; rw [decide_eq_false (by omega)]; rfl⟩
    clear h0 hct hi
    go_enter Tryz.func33, Tryz.ntmps33
    go_wp2
    go_ret2
    exact ⟨by rw [HE.out, HD'.out]; rfl, HTP.bad (Did.same (Kept.refl _ _)) HH.out (by rw [HE.out]; simp) HD'.out⟩
  · have g1 : ((cntT : Int) == 1024) = false := by simp; omega
    have HST : Bx (wst wp0 (.head h lines cntT (crL line cr)) b = if cr = true ∧ b = 10 then eol wp0 h lines (cntT + 1) (crL line cr).dropLast else if badB (crL line cr) b = true then (.head h lines cntT (crL line cr), 4) else (.head h lines (cntT + 1) (crL line cr ++ [b]), 0)) := ⟨by rw [wst_head, if_neg h0, HBH.out]⟩
    have HBAD : Bx ((badB (crL line cr) b = true) ↔ (cr = true ∨ b = 10 ∨ (b ≠ 13 ∧ (b < 32 ∨ 127 ≤ b)))) := ⟨by rw [badB_iff, HBH.out]⟩
    have HHE : Bx (hend lines cntT line cr b = (cr && (decide (b = 10) && ended lines line))) := ⟨by unfold hend; rw [decide_eq_true (by omega)]; rfl⟩
    have HM1 : Bx (Hm (w.setCell ⟨g, 1, none⟩ (.int .i64 ((cntT : Int) + 1))) g own (hmOf h lines (cntT + 1) line LV cr)) := ⟨by
      have h9 := HH.out.sSz ((cntT : Int) + 1)
      have e : ({ hmOf h lines cntT line LV cr with sz := (cntT : Int) + 1 } : HM) = hmOf h lines (cntT + 1) line LV cr := by unfold hmOf; simp
      rw [e] at h9; exact h9⟩
    have HK1 : Bx (Kept own w (w.setCell ⟨g, 1, none⟩ (.int .i64 ((cntT : Int) + 1)))) := ⟨HH.out.kset _ _⟩
    have c3 : (w.setCell ⟨g, 1, none⟩ (.int .i64 ((cntT : Int) + 1))).cell? ⟨g, 3, none⟩ = some (.bool cr) := HM1.out.c3
    have c2 : (w.setCell ⟨g, 1, none⟩ (.int .i64 ((cntT : Int) + 1))).cell? ⟨g, 2, none⟩ = some LV := HM1.out.c2
    have f2 := HM1.out.fz 2
    have f3 := HM1.out.fz 3
    have hcl : cntT < 1024 := by omega
    clear hct h0
    by_cases h1 : decide (b = 10) = cr
    · cases cr with
      | true =>
        have hb10 : b = 10 := by simpa using h1
        subst hb10
        have hlb := hi.byt
        have HE : Bx (wst wp0 (.head h lines cntT (crL line true)) 10 = eol wp0 h lines (cntT + 1) line) := ⟨by rw [HST.out, if_pos ⟨rfl, rfl⟩, crL_drop]⟩
        have HD' : Bx (hend lines cntT line true 10 = ended lines line) := ⟨by rw [HHE.out]; simp⟩
        obtain ⟨a, c, hLV, hbts⟩ := Bts.of_owns (Bk.vr HM1.out) hlb
        have hLV' : LV = .slice a line.length c := hLV
        have hsl : ∀ W, (Instr.sliceAt 22 (.slice a line.length c) none (some (.int .i64 0)) none).run Tryz.prog W = .ok (.slice a 0 c) W := fun W => by
          have h9 := run_sl_h a line.length c 0 0 rfl (Nat.zero_le _) W
          have h8 : Bk (w.setCell ⟨g, 1, none⟩ (.int .i64 ((cntT : Int) + 1))) g own (rowH 1 (hmOf h lines (cntT + 1) line LV true) 0 (.slice none 0 0) (.pointer none)) LV line := HM1.out
          rw [hLV'] at h8
          rw [h8.slA] at h9
          exact h9
        have hcv : (convert 22 9 (.slice a line.length c)).run Tryz.prog (w.setCell ⟨g, 1, none⟩ (.int .i64 ((cntT : Int) + 1))) = .ok (.string (strOf line)) (w.setCell ⟨g, 1, none⟩ (.int .i64 ((cntT : Int) + 1))) := hbts.str
        have HM2 : Bx (Hm (((w.setCell ⟨g, 1, none⟩ (.int .i64 ((cntT : Int) + 1))).setCell ⟨g, 2, none⟩ (.slice a 0 c)).setCell ⟨g, 3, none⟩ (.bool false)) g own (hmOf h lines (cntT + 1) [] (.slice a 0 c) false)) := ⟨(HM1.out.cutL hLV').sCr false⟩
        have HK2 : Bx (Kept own w (((w.setCell ⟨g, 1, none⟩ (.int .i64 ((cntT : Int) + 1))).setCell ⟨g, 2, none⟩ (.slice a 0 c)).setCell ⟨g, 3, none⟩ (.bool false))) := ⟨(HM1.out.cutL hLV').kset' (HM1.out.kset' HK1.out _ _) _ _⟩
        have c3b : ((w.setCell ⟨g, 1, none⟩ (.int .i64 ((cntT : Int) + 1))).setCell ⟨g, 2, none⟩ (.slice a 0 c)).cell? ⟨g, 3, none⟩ = some (.bool true) := (HM1.out.cutL hLV').c3
        have f3b := (HM1.out.cutL hLV').fz 3
        have HIE : Bx (HI h lines (cntT + 1) [] false) := ⟨⟨by omega, Nat.zero_le _, fun c hc => (by cases hc), hi.m0, hi.m1, hi.l17, hi.n⟩⟩
        rw [hLV'] at c2
        have HLB := Bx.mk hlb
        have hll : line.length ≤ 1000000 := by have := hi.le; omega
        clear hbts hLV hLV' HST HBAD HHE h1 hi hlb
        generalize hsl2 : strOf line = s at hcv
        have HSL := Bx.mk hsl2
        clear hsl2
        go_enter Tryz.func33, Tryz.ntmps33
        go_wp2_with fail
        rw [← HSL.out]
        refine (wend_any B g own h line lines (cntT + 1) (.slice a 0 c) _ HM2.out HIE.out HLB.out hll (HENV.out.kept HK2.out hOw hB) (by have := HK2.out.size; omega) hOw).mono ?_
        rintro e w1 ⟨rfl, hp1⟩
        have HP1 := Bx.mk hp1
        clear hp1
        generalize hE1 : (eol wp0 h lines (cntT + 1) line).2 = E1
        generalize hE2 : ended lines line = D1
        have HE1 := Bx.mk hE1
        have HE2 := Bx.mk hE2
        clear hE1 hE2
        go_wp2
        go_ret2
        refine ⟨by rw [HE.out, HD'.out, HE1.out, HE2.out]; rfl, ?_⟩
        obtain ⟨p1, p2, p3, p4⟩ := HP1.out
        refine ⟨own, Did.same (HK2.out.trans' p1), p2, ?_, ?_⟩
        · rw [HE.out, HD'.out]
          intro q1 q2
          obtain ⟨h2, l2, r1, r2, r3⟩ := p3 q1 q2
          exact ⟨h2, l2, cntT + 1, [], .slice a 0 c, false, r1, r2, r3⟩
        · rw [HE.out, HD'.out]
          intro q1
          exact ⟨(p4 q1).1, _, (p4 q1).2⟩
      | false =>
        have hb10 : ¬ b = 10 := by simpa using h1
        have e10 : (b == 10) = false := by simpa using hb10
        have HD' : Bx (hend lines cntT line false b = false) := ⟨by rw [HHE.out]; rfl⟩
        by_cases h13 : b = 13
        · have e13 : (b == 13) = true := by simpa using h13
          have HE : Bx (wst wp0 (.head h lines cntT (crL line false)) b = (.head h lines (cntT + 1) (crL line true), 0)) := ⟨by
            rw [HST.out, if_neg (by simp), if_neg (by rw [HBAD.out]; simp; omega), h13]; rfl⟩
          have HM2 : Bx (Hm ((w.setCell ⟨g, 1, none⟩ (.int .i64 ((cntT : Int) + 1))).setCell ⟨g, 3, none⟩ (.bool true)) g own (hmOf h lines (cntT + 1) line LV true)) := ⟨HM1.out.sCr true⟩
          have HK2 : Bx (Kept own w ((w.setCell ⟨g, 1, none⟩ (.int .i64 ((cntT : Int) + 1))).setCell ⟨g, 3, none⟩ (.bool true))) := ⟨HM1.out.kset' HK1.out _ _⟩
          have HIE : Bx (HI h lines (cntT + 1) line true) := ⟨⟨by omega, by have := hi.le; omega, hi.lb, hi.m0, hi.m1, hi.l17, hi.n⟩⟩
          clear HST HBAD HHE h1 hi h13 hb10
          go_enter Tryz.func33, Tryz.ntmps33
          go_wp2
          go_ret2
          refine ⟨by rw [HE.out, HD'.out]; rfl, own, Did.same HK2.out, ⟨_, HM2.out⟩, fun _ _ => ⟨h, lines, cntT + 1, line, LV, true, by rw [HE.out], HIE.out, HM2.out⟩, fun q => by rw [HD'.out] at q; cases q⟩
        · have e13 : (b == 13) = false := by simpa using h13
          by_cases h32 : 32 ≤ b ∧ b ≤ 126
          · have HE : Bx (wst wp0 (.head h lines cntT (crL line false)) b = (.head h lines (cntT + 1) (crL (line ++ [b]) false), 0)) := ⟨by
              rw [HST.out, if_neg (by simp), if_neg (by rw [HBAD.out]; simp; omega)]; rfl⟩
            have HIE : Bx (HI h lines (cntT + 1) (line ++ [b]) false) := ⟨⟨by omega, by have := hi.le; simp; omega, fun c hc => by
              rcases List.mem_append.1 hc with hc | hc
              · exact hi.lb c hc
              · simp at hc; subst hc; exact h32, hi.m0, hi.m1, hi.l17, hi.n⟩⟩
            have g32 : b ≥ 32 := h32.1
            have g126 : b ≤ 126 := h32.2
            have hll : line.length ≤ 1000000 := by have := hi.le; omega
            obtain ⟨a, c, hLV, _⟩ := Bts.of_owns (Bk.vr HM1.out) hi.byt
            have hLV' : LV = .slice a line.length c := hLV
            rw [hLV'] at c2
            have HV : Bx ((w.setCell ⟨g, 1, none⟩ (.int .i64 ((cntT : Int) + 1))).ownsRow 0 5 1 (.slice a line.length c) line.length (bv line)) := ⟨by have := Bk.vr HM1.out; rw [hLV] at this; exact this⟩
            have HLV := Bx.mk hLV'
            obtain ⟨i0, hi0, hz0, hz1, hz2⟩ := info_parts Tryz.info5
            clear HST HBAD HHE h1 hi h13 hb10 h32 hLV hLV'
            have HNW := Bx.mk (World.news_of_block (heap_alloc_new (w.setCell ⟨g, 1, none⟩ (.int .i64 ((cntT : Int) + 1))) (.cells #[.int .u8 b] 5)))
            rw [show (w.setCell ⟨g, 1, none⟩ (.int .i64 ((cntT : Int) + 1))).heap.size = w.heap.size from by simp [World.setCell]] at HNW
            go_enter Tryz.func33, Tryz.ntmps33
            go_wp2_with (at_builtin; refine wpList_append_lies _ rfl (.tmp 67) (.tmp 69) 22 rfl 0 5 i0 (.int .u8 0) 1 1 Tryz.underlying22 hi0 hz0 hz1 hz2 rfl (by decide) _ line.length (bv line) rfl (HV.out.alloc _) ⟨w.heap.size, 0, none⟩ 1 1 [.int .u8 b] rfl rfl HNW.out (by simp [Value.oneCell']) (by decide) (by unfold maxLen; omega) (by omega) (Nat.zero_le _) _ rfl ?_; intro g4 cap4 w4 hown4 hgr4 hl4 hlt4; have hBk : Bk (w.setCell ⟨g, 1, none⟩ (.int .i64 ((cntT : Int) + 1))) g own (rowH 1 (hmOf h lines (cntT + 1) line (.slice a line.length c) false) 0 (.slice none 0 0) (.pointer none)) (.slice a line.length c) line := (by have h9 := HM1.out; rw [HLV.out] at h9; exact h9); obtain ⟨hR4, hK4⟩ := hBk.more hb rfl hown4 hgr4 hl4 (by simp) hlt4; have k2 := hR4.cell 2; have f2b := hR4.fr 2; have HR4 := Bx.mk hR4; have HK4 := Bx.mk hK4; clear hown4 hgr4 hl4 hlt4 hi0 hz0 hz1 hz2 hR4 hK4 hBk)
            go_ret2
            have HM4 : Hm (w4.setCell ⟨g, 2, none⟩ (.slice (some ⟨g4, 0, none⟩) (line.length + 1) cap4)) g (fun k => own k ∨ ((w.setCell ⟨g, 1, none⟩ (.int .i64 ((cntT : Int) + 1))).heap.size ≤ k ∧ k < w4.heap.size)) (hmOf h lines (cntT + 1) (line ++ [b]) (.slice (some ⟨g4, 0, none⟩) (line.length + 1) cap4) false) := HR4.out.set 2 _
            have hs1 : (w.setCell ⟨g, 1, none⟩ (.int .i64 ((cntT : Int) + 1))).heap.size = w.heap.size := by simp [World.setCell]
            have hs4 : (w4.setCell ⟨g, 2, none⟩ (.slice (some ⟨g4, 0, none⟩) (line.length + 1) cap4)).heap.size = w4.heap.size := by simp [World.setCell]
            refine ⟨by rw [HE.out, HD'.out]; rfl, _, ⟨(HK1.out.trans' HK4.out).setCell (.inl HH.out.og) 2 _, fun k hk => ?_⟩, ⟨_, HM4⟩, fun _ _ => ⟨h, lines, cntT + 1, line ++ [b], _, false, by rw [HE.out], HIE.out, HM4⟩, fun q => by rw [HD'.out] at q; cases q⟩
            rcases hk with hk | hk
            · exact .inl hk
            · right
              rw [hs1] at hk
              rw [hs4]
              exact hk
          · have HE : Bx (wst wp0 (.head h lines cntT (crL line false)) b = (.head h lines cntT (crL line false), 4)) := ⟨by
              rw [HST.out, if_neg (by simp), if_pos (by rw [HBAD.out]; right; right; omega)]⟩
            by_cases h3 : 32 ≤ b
            · have g126 : ¬ b ≤ 126 := by omega
              clear HST HBAD HHE h1 hi h13 hb10 h32
              go_enter Tryz.func33, Tryz.ntmps33
              go_wp2
              go_ret2
              exact ⟨by rw [HE.out, HD'.out]; rfl, HTP.bad (Did.same HK1.out) HM1.out (by rw [HE.out]; simp) HD'.out⟩
            · clear HST HBAD HHE h1 hi h13 hb10 h32
              go_enter Tryz.func33, Tryz.ntmps33
              go_wp2
              go_ret2
              exact ⟨by rw [HE.out, HD'.out]; rfl, HTP.bad (Did.same HK1.out) HM1.out (by rw [HE.out]; simp) HD'.out⟩
    · have HE : Bx (wst wp0 (.head h lines cntT (crL line cr)) b = (.head h lines cntT (crL line cr), 4)) := ⟨by
        rw [HST.out]
        cases cr with
        | true =>
          have h2 : ¬ b = 10 := by simpa using h1
          rw [if_neg (fun k => h2 k.2), if_pos (HBAD.out.2 (.inl rfl))]
        | false =>
          have h2 : b = 10 := by simpa using h1
          rw [if_neg (by simp), if_pos (HBAD.out.2 (.inr (.inl h2)))]⟩
      have HD' : Bx (hend lines cntT line cr b = false) := ⟨by
        rw [HHE.out]
        cases cr with
        | true =>
          have h2 : ¬ b = 10 := by simpa using h1
          simp [h2]
        | false => rfl⟩
      have g10 : (b == 10) = !cr := by
        cases cr with
        | true => simpa using h1
        | false => simpa using h1
      clear HST HBAD HHE h1 hi
      cases cr with
      | true =>
        go_enter Tryz.func33, Tryz.ntmps33
        go_wp2
        go_ret2
        exact ⟨by rw [HE.out, HD'.out]; rfl, HTP.bad (Did.same HK1.out) HM1.out (by rw [HE.out]; simp) HD'.out⟩
      | false =>
        go_enter Tryz.func33, Tryz.ntmps33
        go_wp2
        go_ret2
        exact ⟨by rw [HE.out, HD'.out]; rfl, HTP.bad (Did.same HK1.out) HM1.out (by rw [HE.out]; simp) HD'.out⟩
end Go.Proofs.YtpfijaojgeceeaaGreatDoor
namespace Go.Proofs.YtpfijaojgeceeaaGreatDoor
open Go.RowKit
set_option linter.unusedVariables false

variable {w w' : World} {g : Nat} {own : Nat → Prop} {cs : Array Value} {v : Value} {l : List Int}
set_option maxRecDepth 100000 in
/-- all cells of a reader are written -/
theorem Bk.store (h : Bk w g own cs v l) (vs : Array Value) (hs : vs.size = cs.size) : Bk (w.setCells g 0 vs.toList) g own vs (.slice none 0 0) [] ∧ Kept own w (w.setCells g 0 vs.toList) ∧ w.there g 0 vs.size := by
  refine ⟨⟨Byt.nil, h.og, fun k hk => by rw [setCells_size]; exact h.lt k hk, heap_stored h.row hs, World.ownsRow_nil _ _ _ _, fun k hk => by cases hk⟩, (Kept.refl own w).setCells (.inl h.og) _ 0, by rw [hs]; exact there_row h.row⟩
set_option maxRecDepth 100000 in
theorem Bk.keptO {own2 : Nat → Prop} (h : Bk w g own cs v l) (hb : Kept own2 w w') (hd : ∀ k, own k → ¬ own2 k) : Bk w' g own cs v l := h.keep (fun k hk => hb.block k (h.lt k hk) (hd k hk)) hb.size
set_option maxRecDepth 100000 in
theorem Bk.more_own {own2 : Nat → Prop} (h : Bk w g own cs v l) (h2 : ∀ k, own k → own2 k) (h3 : ∀ k, own2 k → k < w.heap.size) : Bk w g own2 cs v l := ⟨h.byt, h2 g h.og, h3, h.row, h.vr, fun k hk => h2 k (h.ov k hk)⟩
set_option maxHeartbeats 400000 in
theorem wmade_yes (x : Int) (w : World) (hc : w.cell? ⟨g, 0, none⟩ = some (.int .i64 x)) (hx : x ≠ 0) :
    Calls Tryz.prog 32 #[.pointer (some ⟨g, 0, none⟩)] w fun e w' => e = .returned (.bool true) ∧ w' = w := by
  have h1 : (x != 0) = true := by simpa using hx
  clear hx
  go_enter Tryz.func32, Tryz.ntmps32
  go_wp2
  go_ret
  exact ⟨rfl, rfl⟩
set_option maxHeartbeats 400000 in
theorem wmade_no (w : World) (hc : w.cell? ⟨g, 0, none⟩ = some (.int .i64 0)) :
    Calls Tryz.prog 32 #[.pointer (some ⟨g, 0, none⟩)] w fun e w' => e = .returned (.bool false) ∧ w' = w := by
  go_enter Tryz.func32, Tryz.ntmps32
  go_wp2
  go_ret
  exact ⟨rfl, rfl⟩
set_option maxHeartbeats 400000 in
theorem wmade_nil (w : World) :
    Calls Tryz.prog 32 #[.pointer none] w fun e w' => e = .returned (.bool false) ∧ w' = w := by
  go_enter Tryz.func32, Tryz.ntmps32
  go_wp2
  go_ret
  exact ⟨rfl, rfl⟩
/-- bytes of a body come -/
def hbB (h : HD) : Bool := h.enc || decide (h.n ≠ 0)
set_option maxHeartbeats 400000 in
theorem whas_any (h : HD) (w : World) (c10 : w.cell? ⟨g, 10, none⟩ = some (.int .i64 (frN h))) (c11 : w.cell? ⟨g, 11, none⟩ = some (.int .i64 (h.n : Int))) :
    Calls Tryz.prog 45 #[.pointer (some ⟨g, 1, none⟩)] w fun e w' => e = .returned (.bool (hbB h)) ∧ w' = w := by
  have HB : Bx (hbB h = (h.enc || decide (h.n ≠ 0))) := ⟨rfl⟩
  generalize hbB h = R at HB
  have e2 : (frN h == 2) = h.enc := by unfold frN; cases h.enc <;> cases h.len <;> rfl
  generalize frN h = F at c10 e2
  generalize h.enc = EN at e2 HB
  cases EN with
  | true =>
    clear c11
    go_enter Tryz.func45, Tryz.ntmps45
    go_wp2
    go_ret
    exact ⟨by rw [HB.out]; rfl, rfl⟩
  | false =>
    by_cases h0 : h.n = 0
    · have HN : Bx (R = false) := ⟨by rw [HB.out]; simp [h0]⟩
      rw [h0] at c11
      clear HB h0
      go_enter Tryz.func45, Tryz.ntmps45
      go_wp2
      go_ret
      exact ⟨by rw [HN.out]; rfl, rfl⟩
    · have HN : Bx (R = true) := ⟨by rw [HB.out]; simp [h0]⟩
      have hg : (h.n : Int) > 0 := by omega
      clear HB h0
      generalize (h.n : Int) = NN at c11 hg
      go_enter Tryz.func45, Tryz.ntmps45
      go_wp2
      go_ret
      exact ⟨by rw [HN.out]; rfl, rfl⟩
/-- the body that begins -/
def BegP (h : HD) (w w' : World) (e : Ending) : Prop := Below w.heap.size w w' ∧ ((h.enc = false ∧ e = .returned (.agg #[.int .i64 (h.n : Int), .slice none 0 0, .pointer none])) ∨
  (h.enc = true ∧ ∃ g2, e = .returned (.agg #[.int .i64 0, .slice none 0 0, .pointer (some ⟨g2, 0, none⟩)]) ∧ Rd w' g2 (fun k => k = g2) 2048 ⟨0, 0, []⟩ ∧ w.heap.size ≤ g2))
set_option maxRecDepth 100000 in
theorem body_info : (Tryz.prog.info? 73).map (·.size) = some 3 := by kernel_rfl
set_option maxHeartbeats 1000000 in
theorem wbegun_any (h : HD) (w : World) (hg : g < w.heap.size) (c10 : w.cell? ⟨g, 10, none⟩ = some (.int .i64 (frN h))) (c11 : w.cell? ⟨g, 11, none⟩ = some (.int .i64 (h.n : Int))) :
    Calls Tryz.prog 46 #[.pointer (some ⟨g, 1, none⟩)] w fun e w' => BegP h w w' e := by
  have hb0 : Below w.heap.size w (w.alloc (.cells #[.int .i64 0, .slice none 0 0, .pointer none] 73)) := (Below.refl _ _).alloc (Nat.le_refl _) _
  have d10 : (w.alloc (.cells #[.int .i64 0, .slice none 0 0, .pointer none] 73)).cell? ⟨g, 10, none⟩ = some (.int .i64 (frN h)) := (hb0.cell (p := ⟨g, 10, none⟩) hg).trans c10
  have d11 : (w.alloc (.cells #[.int .i64 0, .slice none 0 0, .pointer none] 73)).cell? ⟨g, 11, none⟩ = some (.int .i64 (h.n : Int)) := (hb0.cell (p := ⟨g, 11, none⟩) hg).trans c11
  have e2 : (frN h != 2) = !h.enc := by unfold frN; cases h.enc <;> cases h.len <;> rfl
  have HB0 := Bx.mk hb0
  have HROW : Bx ((w.alloc (.cells #[.int .i64 0, .slice none 0 0, .pointer none] 73)).heap[w.heap.size]? = some (.cells #[.int .i64 0, .slice none 0 0, .pointer none] 73 (0, 0))) := ⟨heap_alloc_new w _⟩
  clear hb0 c10 c11
  generalize frN h = F at d10 e2
  cases hen : h.enc with
  | false =>
    rw [hen] at e2
    have HEN := Bx.mk hen
    have HTH : Bx ((w.alloc (.cells #[.int .i64 0, .slice none 0 0, .pointer none] 73)).there w.heap.size 0 3) := ⟨there_row HROW.out⟩
    have HST : Bx (((w.alloc (.cells #[.int .i64 0, .slice none 0 0, .pointer none] 73)).setCells w.heap.size 0 #[.int .i64 (h.n : Int), .slice none 0 0, .pointer none].toList).heap[w.heap.size]? = some (.cells #[.int .i64 (h.n : Int), .slice none 0 0, .pointer none] 73 (0, 0))) := ⟨heap_stored HROW.out rfl⟩
    have HBS : Bx (Below w.heap.size w ((w.alloc (.cells #[.int .i64 0, .slice none 0 0, .pointer none] 73)).setCells w.heap.size 0 #[.int .i64 (h.n : Int), .slice none 0 0, .pointer none].toList)) := ⟨below_setCells HB0.out _ (Nat.le_refl _) _ 0⟩
    clear hen
    go_enter Tryz.func46, Tryz.ntmps46
    go_wp2_with (refine wpList_store_mid rfl 73 (.tmp 2) (.tmp 14) rfl w.heap.size 0 #[.int .i64 (h.n : Int), .slice none 0 0, .pointer none] rfl rfl HTH.out body_info (by simp [Value.oneCell']) ?_)
    exact bodyPost_ret (v := .agg #[.int .i64 (h.n : Int), .slice none 0 0, .pointer none]) (results_cell_row rfl _ _ w.heap.size 73 _ (0, 0) _ rfl HST.out Tryz.underlying73 rfl body_info) rfl ⟨HBS.out, .inl ⟨HEN.out, rfl⟩⟩
  | true =>
    rw [hen] at e2
    have HEN := Bx.mk hen
    clear hen d11
    have HS1 : Bx ((w.alloc (.cells #[.int .i64 0, .slice none 0 0, .pointer none] 73)).heap.size = w.heap.size + 1) := ⟨by simp⟩
    go_enter Tryz.func46, Tryz.ntmps46
    go_wp2_with fail
    refine (cnew_any 2048 2048 _ rfl (Nat.le_refl _)).mono ?_
    rintro e w2 ⟨rfl, hrd, hb2⟩
    have HRD := Bx.mk hrd
    have HB2 := Bx.mk hb2
    generalize hg2 : (w.alloc (.cells #[.int .i64 0, .slice none 0 0, .pointer none] 73)).heap.size = g2
    have HG2 := Bx.mk hg2
    have HR2 : Bx (w2.heap[w.heap.size]? = some (.cells #[.int .i64 0, .slice none 0 0, .pointer none] 73 (0, 0))) := ⟨by rw [hb2.block w.heap.size (by have := HS1.out; omega)]; exact HROW.out⟩
    have HTH : Bx (w2.there w.heap.size 0 3) := ⟨there_row HR2.out⟩
    have HST : Bx ((w2.setCells w.heap.size 0 #[.int .i64 0, .slice none 0 0, .pointer (some ⟨g2, 0, none⟩)].toList).heap[w.heap.size]? = some (.cells #[.int .i64 0, .slice none 0 0, .pointer (some ⟨g2, 0, none⟩)] 73 (0, 0))) := ⟨heap_stored HR2.out rfl⟩
    have HBS : Bx (Below w.heap.size w (w2.setCells w.heap.size 0 #[.int .i64 0, .slice none 0 0, .pointer (some ⟨g2, 0, none⟩)].toList)) := ⟨below_setCells (bstep HB0.out HB2.out) _ (Nat.le_refl _) _ 0⟩
    clear hrd hb2 hg2
    go_wp2_with (refine wpList_store_mid rfl 73 (.tmp 2) (.tmp 20) rfl w.heap.size 0 #[.int .i64 0, .slice none 0 0, .pointer (some ⟨g2, 0, none⟩)] rfl rfl HTH.out body_info (by simp [Value.oneCell']) ?_)
    refine bodyPost_ret (v := .agg #[.int .i64 0, .slice none 0 0, .pointer (some ⟨g2, 0, none⟩)]) (results_cell_row rfl _ _ w.heap.size 73 _ (0, 0) _ rfl HST.out Tryz.underlying73 rfl body_info) rfl ⟨HBS.out, .inr ⟨HEN.out, g2, rfl, ?_, ?_⟩⟩
    · have h9 := HRD.out
      rw [HG2.out] at h9
      exact h9.keep (fun k hk => setCells_other (by rw [hk, ← HG2.out, HS1.out]; omega) _ _) (by rw [setCells_size]; exact Nat.le_refl _)
    · rw [← HG2.out, HS1.out]; omega
end Go.Proofs.YtpfijaojgeceeaaGreatDoor
namespace Go.Proofs.YtpfijaojgeceeaaGreatDoor
open Go.RowKit
set_option linter.unusedVariables false

/-- what was asked -/
structure Hx (H : HM) (h : HD) : Prop where
  m : H.m = h.m
  t : H.t = h.t
  k : H.k = h.k
/-- a body of so many bytes -/
def FixM (w : World) (g : Nat) (own : Nat → Prop) (x : Int) (H : HM) (lf : Int) (body : List Int) : Prop := ∃ CV, Bk w g own (rowH x H lf CV (.pointer none)) CV body
/-- a body in chunks -/
def ChkM (w : World) (g : Nat) (own : Nat → Prop) (x : Int) (H : HM) (c : CS) : Prop := ∃ g2 own2, Bk w g own (rowH x H 0 (.slice none 0 0) (.pointer (some ⟨g2, 0, none⟩))) (.slice none 0 0) [] ∧ Rd w g2 own2 2048 c ∧ ∀ k, own2 k → own k ∧ k ≠ g
/-- a reader in memory -/
def Wat (w : World) (g : Nat) (own : Nat → Prop) : WR → Prop
  | .ok (.head h lines cntT cur) => ∃ line LV cr, cur = crL line cr ∧ HI h lines cntT line cr ∧ Hm w g own (hmOf h lines cntT line LV cr)
  | .ok (.fix h left body) => ∃ H, Hx H h ∧ 1 ≤ left ∧ body.length + left ≤ 2048 ∧ FixM w g own 2 H (left : Int) body
  | .ok (.chk h c) => ∃ H, Hx H h ∧ c.ph < 10 ∧ ChkM w g own 2 H c
  | .ok (.done x) => ∃ H h, Hx H h ∧ ((∃ body, x = h.x body ∧ body.length ≤ 2048 ∧ FixM w g own 3 H 0 body) ∨ (∃ c, x = h.x c.body ∧ ChkM w g own 3 H c))
  | .bad => Bk w g own #[.int .i64 4, .int .i64 0, .slice none 0 0, .bool false, .string ⟨#[]⟩, .string ⟨#[]⟩, .string ⟨#[]⟩, .slice none 0 0, .int .i64 0, .bool false, .int .i64 0, .int .i64 0, .int .i64 0, .slice none 0 0, .pointer none] (.slice none 0 0) []
variable {w w' : World} {g : Nat} {own : Nat → Prop}
set_option maxRecDepth 100000 in
theorem hm_hx (h : HD) (lines cntT : Nat) (line : List Int) (LV : Value) (cr : Bool) : Hx (hmOf h lines cntT line LV cr) h := ⟨rfl, rfl, rfl⟩
set_option maxRecDepth 100000 in
theorem reader_info : (Tryz.prog.info? 75).map (·.size) = some 15 := by kernel_rfl
set_option maxRecDepth 100000 in
set_option maxHeartbeats 1000000 in
theorem wgo_head (h : HD) (lines cntT : Nat) (LV : Value) (w : World) (hm : Hm w g own (hmOf h lines cntT [] LV false)) (hn : h.n ≤ 2048) :
    Calls Tryz.prog 35 #[.pointer (some ⟨g, 0, none⟩)] w fun e w' => e = .returned (.tuple #[]) ∧ ∃ own', Wat w' g own' (.ok (bgQ h)) ∧ Did own w w' own' := by
  have c0 := hm.c0
  have f0 := hm.fz 0
  have HC : Bx (w.cell? ⟨g, 10, none⟩ = some (.int .i64 (frN h)) ∧ w.cell? ⟨g, 11, none⟩ = some (.int .i64 (h.n : Int))) := ⟨hm.c10, hm.c11⟩
  have HL : Bx (g < w.heap.size) := ⟨hm.lt g hm.og⟩
  have HH := Bx.mk hm
  have HN := Bx.mk hn
  clear hm hn
  cases hb : hbB h with
  | false =>
    have HBQ : Bx (bgQ h = .done (h.x [])) := ⟨by
      unfold hbB at hb
      simp at hb
      unfold bgQ
      rw [if_neg (by rw [hb.1]; decide), if_pos hb.2]⟩
    have C1 : Hid (Calls Tryz.prog 45 #[.pointer (some ⟨g, 1, none⟩)] w fun e w' => e = .returned (.bool false) ∧ w' = w) := by rw [← hb]; exact whas_any h w HC.out.1 HC.out.2
    clear hb
    go_enter Tryz.func35, Tryz.ntmps35
    go_wp2_with fail
    refine C1.out.mono ?_
    rintro e w0 ⟨rfl, hw0⟩
    have hw1 := hw0.symm
    subst hw1
    go_wp2
    go_end0
    refine ⟨rfl, own, ?_, Did.same (HH.out.kset _ _)⟩
    rw [HBQ.out]
    exact ⟨hmOf h lines cntT [] LV false, h, hm_hx .., .inl ⟨[], rfl, by simp, .slice none 0 0, (Bk.nil HH.out).set 0 (.int .i64 3)⟩⟩
  | true =>
    have HBT := Bx.mk hb
    have C1 : Hid (Calls Tryz.prog 45 #[.pointer (some ⟨g, 1, none⟩)] w fun e w' => e = .returned (.bool true) ∧ w' = w) := by rw [← hb]; exact whas_any h w HC.out.1 HC.out.2
    have C2 : Hid (Calls Tryz.prog 46 #[.pointer (some ⟨g, 1, none⟩)] w fun e w' => BegP h w w' e) := wbegun_any h w HL.out HC.out.1 HC.out.2
    clear hb
    go_enter Tryz.func35, Tryz.ntmps35
    go_wp2_with fail
    refine C1.out.mono ?_
    rintro e w0 ⟨rfl, hw0⟩
    have hw1 := hw0.symm
    subst hw1
    go_wp2_with fail
    refine C2.out.mono ?_
    rintro e w1 ⟨hb1, hor⟩
    have HB1 := Bx.mk hb1
    have HH1 := Bx.mk (HH.out.below hb1)
    have d0 := HH1.out.c0
    have e0 := HH1.out.fz 0
    clear hb1
    have hB2 : Bk (w1.setCell ⟨g, 0, none⟩ (.int .i64 2)) g own (rowH 2 (hmOf h lines cntT [] LV false) 0 (.slice none 0 0) (.pointer none)) (.slice none 0 0) [] := (Bk.nil HH1.out).set 0 (.int .i64 2)
    have HB2 := Bx.mk hB2
    have HTH : Bx ((w1.setCell ⟨g, 0, none⟩ (.int .i64 2)).there g 12 3) := ⟨fun i hi => by have h9 := there_row hB2.row (12 + i) (by show 12 + i < 15; omega); rwa [Nat.zero_add] at h9⟩
    clear hB2
    rcases hor with ⟨hen, rfl⟩ | ⟨hen, g2, rfl, hrd, hg2⟩
    · have HBQ : Bx (bgQ h = .fix h h.n [] ∧ 1 ≤ h.n) := ⟨by
        have := HBT.out
        unfold hbB at this
        simp [hen] at this
        unfold bgQ
        rw [if_neg (by rw [hen]; decide), if_neg this]
        exact ⟨rfl, by omega⟩⟩
      clear hen
      go_wp2_with (refine wpList_store_mid rfl 73 (.tmp 22) (.tmp 18) rfl g 12 #[.int .i64 (h.n : Int), .slice none 0 0, .pointer none] rfl rfl HTH.out body_info (by simp [Value.oneCell']) ?_)
      refine bodyPost_ret (results_none rfl _ _ _) rfl ?_
      have hK : Kept own w ((w1.setCell ⟨g, 0, none⟩ (.int .i64 2)).setCells g 12 #[.int .i64 (h.n : Int), .slice none 0 0, .pointer none].toList) := ((Kept.of_below HB1.out).setCell (.inl HH.out.og) 0 _).setCells (.inl HH.out.og) _ 12
      refine ⟨rfl, own, ?_, Did.same hK⟩
      rw [HBQ.out.1]
      exact ⟨hmOf h lines cntT [] LV false, hm_hx .., HBQ.out.2, by have := HN.out; simpa using this, .slice none 0 0, ((HB2.out.set 12 (.int .i64 (h.n : Int))).set 13 (.slice none 0 0)).set 14 (.pointer none)⟩
    · have HBQ : Bx (bgQ h = .chk h ⟨0, 0, []⟩) := ⟨by unfold bgQ; rw [if_pos hen]⟩
      have HRD := Bx.mk hrd
      have HG2 := Bx.mk hg2
      clear hen hrd hg2
      go_wp2_with (refine wpList_store_mid rfl 73 (.tmp 22) (.tmp 18) rfl g 12 #[.int .i64 0, .slice none 0 0, .pointer (some ⟨g2, 0, none⟩)] rfl rfl HTH.out body_info (by simp [Value.oneCell']) ?_)
      refine bodyPost_ret (results_none rfl _ _ _) rfl ?_
      have hK : Kept own w ((w1.setCell ⟨g, 0, none⟩ (.int .i64 2)).setCells g 12 #[.int .i64 0, .slice none 0 0, .pointer (some ⟨g2, 0, none⟩)].toList) := ((Kept.of_below HB1.out).setCell (.inl HH.out.og) 0 _).setCells (.inl HH.out.og) _ 12
      have hBk : Bk ((w1.setCell ⟨g, 0, none⟩ (.int .i64 2)).setCells g 12 #[.int .i64 0, .slice none 0 0, .pointer (some ⟨g2, 0, none⟩)].toList) g own (rowH 2 (hmOf h lines cntT [] LV false) 0 (.slice none 0 0) (.pointer (some ⟨g2, 0, none⟩))) (.slice none 0 0) [] := ((HB2.out.set 12 (.int .i64 0)).set 13 (.slice none 0 0)).set 14 (.pointer (some ⟨g2, 0, none⟩))
      have hne : g2 ≠ g := by have := HL.out; have := HG2.out; omega
      have hsz : ((w1.setCell ⟨g, 0, none⟩ (.int .i64 2)).setCells g 12 #[.int .i64 0, .slice none 0 0, .pointer (some ⟨g2, 0, none⟩)].toList).heap.size = w1.heap.size := by rw [setCells_size]; simp [World.setCell]
      have hRd : Rd ((w1.setCell ⟨g, 0, none⟩ (.int .i64 2)).setCells g 12 #[.int .i64 0, .slice none 0 0, .pointer (some ⟨g2, 0, none⟩)].toList) g2 (fun k => k = g2) 2048 ⟨0, 0, []⟩ := HRD.out.kept (own2 := fun k => k = g) (((Kept.refl (fun k => k = g) w1).setCell (g := g) (.inl rfl) 0 _).setCells (g := g) (.inl rfl) _ 12) (fun k hk hk2 => hne (by rw [← hk, hk2]))
      have hg2l := HRD.out.lt g2 rfl
      refine ⟨rfl, fun k => own k ∨ k = g2, ?_, hK, fun k hk => ?_⟩
      · rw [HBQ.out]
        refine ⟨hmOf h lines cntT [] LV false, hm_hx .., by show 0 < 10; decide, g2, fun k => k = g2, hBk.more_own (fun k hk => .inl hk) (fun k hk => ?_), hRd, fun k hk => ⟨.inr hk, by rw [hk]; exact hne⟩⟩
        rcases hk with hk | hk
        · exact hBk.lt k hk
        · rw [hk, hsz]; exact hg2l
      · rcases hk with hk | hk
        · exact .inl hk
        · right; rw [hk, hsz]; exact ⟨HG2.out, hg2l⟩
set_option maxHeartbeats 400000 in
theorem wgo_body (w : World) (c0 : w.cell? ⟨g, 0, none⟩ = some (.int .i64 2)) (f0 : w.frozen? ⟨g, 0, none⟩ = false) :
    Calls Tryz.prog 35 #[.pointer (some ⟨g, 0, none⟩)] w fun e w' => e = .returned (.tuple #[]) ∧ w' = w.setCell ⟨g, 0, none⟩ (.int .i64 3) := by
  go_enter Tryz.func35, Tryz.ntmps35
  go_wp2
  go_end0
  exact ⟨rfl, rfl⟩
end Go.Proofs.YtpfijaojgeceeaaGreatDoor
namespace Go.Proofs.YtpfijaojgeceeaaGreatDoor
open Go.RowKit
set_option linter.unusedVariables false

variable {g : Nat} {own : Nat → Prop}
set_option maxRecDepth 100000 in
set_option maxHeartbeats 1000000 in
theorem wbfix_any (H : HM) (left : Nat) (body : List Int) (b : Int) (w : World) (hf : FixM w g own 2 H (left : Int) body) (h1 : 1 ≤ left) (h2 : body.length + left ≤ 2048) (hb : 0 ≤ b ∧ b ≤ 255) :
    Calls Tryz.prog 34 #[.pointer (some ⟨g, 12, none⟩), .int .u8 b] w fun e w' => e = .returned (.tuple #[.bool (decide (left = 1)), .int .i64 0]) ∧ ∃ own', FixM w' g own' 2 H ((left - 1 : Nat) : Int) (body ++ [b]) ∧ Did own w w' own' := by
  obtain ⟨CV, hB⟩ := hf
  obtain ⟨a, c, rfl, _⟩ := Bts.of_owns hB.vr hB.byt
  have c12 : w.cell? ⟨g, 12, none⟩ = some (.int .i64 (left : Int)) := hB.cell 12
  have c13 : w.cell? ⟨g, 13, none⟩ = some (.slice a body.length c) := hB.cell 13
  have c14 : w.cell? ⟨g, 14, none⟩ = some (.pointer none) := hB.cell 14
  have HB := Bx.mk hB
  have HV := Bx.mk hB.vr
  obtain ⟨i0, hi0, hz0, hz1, hz2⟩ := info_parts Tryz.info5
  have HD : Bx (decide (left = 1) = ((left : Int) - 1 == 0)) := ⟨by
    by_cases h : left = 1
    · subst h; rfl
    · rw [decide_eq_false h]; symm; simp; omega⟩
  have HL : Bx ((left : Int) - 1 = ((left - 1 : Nat) : Int)) := ⟨by omega⟩
  clear hB
  go_enter Tryz.func34, Tryz.ntmps34
  go_wp2_with (at_builtin; (refine wpList_append_lies _ rfl (.tmp 23) (.tmp 25) 22 rfl 0 5 i0 (.int .u8 0) 1 1 Tryz.underlying22 hi0 hz0 hz1 hz2 rfl (by decide) _ body.length (bv body) rfl (HV.out.alloc _) ⟨w.heap.size, 0, none⟩ 1 1 [.int .u8 b] rfl rfl (World.news_of_block (heap_alloc_new w _)) (by simp [Value.oneCell']) (by decide) (by unfold maxLen; omega) (by omega) (Nat.zero_le _) _ rfl ?_; intro g4 cap4 w4 hown4 hgr4 hl4 hlt4; obtain ⟨hR4, hK4⟩ := HB.out.more hb rfl hown4 hgr4 hl4 (by simp) hlt4; have k12 : w4.cell? ⟨g, 12, none⟩ = some (.int .i64 (left : Int)) := hR4.cell 12; have k13 : w4.cell? ⟨g, 13, none⟩ = some (.slice a body.length c) := hR4.cell 13; have f12 := hR4.fr 12; have f13 := hR4.fr 13; have HR4 := Bx.mk hR4; have HK4 := Bx.mk hK4; clear hown4 hgr4 hl4 hlt4 hi0 hz0 hz1 hz2 hR4 hK4 c12 c13))
  go_ret2
  have hF : Bk ((w4.setCell ⟨g, 13, none⟩ (.slice (some ⟨g4, 0, none⟩) (body.length + 1) cap4)).setCell ⟨g, 12, none⟩ (.int .i64 ((left : Int) - 1))) g (fun k => own k ∨ (w.heap.size ≤ k ∧ k < w4.heap.size)) (rowH 2 H ((left : Int) - 1) (.slice (some ⟨g4, 0, none⟩) (body.length + 1) cap4) (.pointer none)) (.slice (some ⟨g4, 0, none⟩) (body.length + 1) cap4) (body ++ [b]) := (HR4.out.set 13 _).set 12 _
  refine ⟨by rw [HD.out]; rfl, _, ⟨_, by rw [← HL.out]; exact hF⟩, ⟨(HK4.out.setCell (.inl HB.out.og) 13 _).setCell (.inl HB.out.og) 12 _, fun k hk => ?_⟩⟩
  rcases hk with hk | hk
  · exact .inl hk
  · right; simpa [World.setCell] using hk
set_option maxRecDepth 100000 in
set_option maxHeartbeats 1000000 in
theorem wbchk_any (H : HM) (cc : CS) (b : Int) (w : World) (hf : ChkM w g own 2 H cc) (hb : 0 ≤ b ∧ b ≤ 255) :
    Calls Tryz.prog 34 #[.pointer (some ⟨g, 12, none⟩), .int .u8 b] w fun e w' => e = .returned (.tuple #[.bool (ptD 2048 cc b), .int .i64 (stp 2048 cc b).2]) ∧ ∃ own', ChkM w' g own' 2 H (ptS 2048 cc b) ∧ Did own w w' own' := by
  obtain ⟨g2, own2, hB, hR, hs⟩ := hf
  have c14 : w.cell? ⟨g, 14, none⟩ = some (.pointer (some ⟨g2, 0, none⟩)) := hB.cell 14
  have HB := Bx.mk hB
  have HR := Bx.mk hR
  have HS := Bx.mk hs
  clear hB hR hs
  go_enter Tryz.func34, Tryz.ntmps34
  go_wp2_with fail
  refine (cput_any g2 own2 2048 cc b _ HR.out hb).mono ?_
  rintro e w1 ⟨rfl, own3, hr1, hd1⟩
  have HR1 := Bx.mk hr1
  have HD1 := Bx.mk hd1
  clear hr1 hd1
  generalize hD : ptD 2048 cc b = D
  generalize hE : (stp 2048 cc b).2 = E
  have HDD := Bx.mk hD
  have HEE := Bx.mk hE
  clear hD hE
  go_wp2
  go_ret2
  have hg1 : w1.heap[g]? = w.heap[g]? := HD1.out.kept.block g (HB.out.lt g HB.out.og) (fun h => (HS.out g h).2 rfl)
  have hne3 : ∀ k, own3 k → k ≠ g := fun k hk => by
    rcases HD1.out.new k hk with h1 | h1
    · exact (HS.out k h1).2
    · have := HB.out.lt g HB.out.og; omega
  have hsz := HD1.out.kept.size
  have hBk : Bk w1 g (fun k => own k ∨ own3 k) (rowH 2 H 0 (.slice none 0 0) (.pointer (some ⟨g2, 0, none⟩))) (.slice none 0 0) [] := ⟨Byt.nil, .inl HB.out.og, fun k hk => by
    rcases hk with hk | hk
    · exact Nat.lt_of_lt_of_le (HB.out.lt k hk) hsz
    · exact HR1.out.lt k hk, by rw [hg1]; exact HB.out.row, World.ownsRow_nil _ _ _ _, fun k hk => by cases hk⟩
  refine ⟨by rw [HDD.out, HEE.out]; rfl, _, ⟨g2, own3, hBk, HR1.out, fun k hk => ⟨.inr hk, hne3 k hk⟩⟩, ⟨⟨HD1.out.kept.os, HD1.out.kept.tape, HD1.out.kept.output, hsz, fun k hk hn => HD1.out.kept.block k hk (fun h => hn (HS.out k h).1)⟩, fun k hk => ?_⟩⟩
  rcases hk with hk | hk
  · exact .inl hk
  · rcases HD1.out.new k hk with h1 | h1
    · exact .inl (HS.out k h1).1
    · exact .inr h1
end Go.Proofs.YtpfijaojgeceeaaGreatDoor
namespace Go.Proofs.YtpfijaojgeceeaaGreatDoor
open Go.RowKit
set_option linter.unusedVariables false

variable {g : Nat} {own : Nat → Prop}
set_option maxRecDepth 100000 in
theorem wat_own {w : World} : ∀ {r : WR}, Wat w g own r → own g ∧ ∀ k, own k → k < w.heap.size
  | .ok (.head h lines cntT cur), ⟨line, LV, cr, _, _, hm⟩ => ⟨hm.og, hm.lt⟩
  | .ok (.fix h left body), ⟨H, _, _, _, CV, hB⟩ => ⟨hB.og, hB.lt⟩
  | .ok (.chk h c), ⟨H, _, _, g2, own2, hB, _⟩ => ⟨hB.og, hB.lt⟩
  | .ok (.done x), ⟨H, h, _, hh⟩ => by
    rcases hh with ⟨body, _, _, CV, hB⟩ | ⟨c, _, g2, own2, hB, _⟩
    · exact ⟨hB.og, hB.lt⟩
    · exact ⟨hB.og, hB.lt⟩
  | .bad, hB => ⟨Bk.og hB, Bk.lt hB⟩
def rowBad : Array Value := #[.int .i64 4, .int .i64 0, .slice none 0 0, .bool false, .string ⟨#[]⟩, .string ⟨#[]⟩, .string ⟨#[]⟩, .slice none 0 0, .int .i64 0, .bool false, .int .i64 0, .int .i64 0, .int .i64 0, .slice none 0 0, .pointer none]
set_option maxRecDepth 100000 in
theorem wat_cell {w : World} : ∀ {r : WR}, Wat w g own r → ∃ x, w.cell? ⟨g, 0, none⟩ = some (.int .i64 x) ∧ x ≠ 0 ∧ (r.over = true → x = 3 ∨ x = 4)
  | .ok (.head h lines cntT cur), ⟨line, LV, cr, _, _, hm⟩ => ⟨1, hm.c0, by decide, fun h => by cases h⟩
  | .ok (.fix h left body), ⟨H, _, _, _, CV, hB⟩ => ⟨2, hB.cell 0, by decide, fun h => by cases h⟩
  | .ok (.chk h c), ⟨H, _, _, g2, own2, hB, _⟩ => ⟨2, hB.cell 0, by decide, fun h => by cases h⟩
  | .ok (.done x), ⟨H, h, _, hh⟩ => by
    rcases hh with ⟨body, _, _, CV, hB⟩ | ⟨c, _, g2, own2, hB, _⟩
    · exact ⟨3, hB.cell 0, by decide, fun _ => .inl rfl⟩
    · exact ⟨3, hB.cell 0, by decide, fun _ => .inl rfl⟩
  | .bad, hB => ⟨4, Bk.cell hB 0, by decide, fun _ => .inr rfl⟩
set_option maxRecDepth 100000 in
theorem wat_at {w : World} : ∀ {s : WS}, Wat w g own (.ok s) → ∃ x, w.cell? ⟨g, 0, none⟩ = some (.int .i64 x) ∧ (x == 3) = s.over
  | .head h lines cntT cur, ⟨line, LV, cr, _, _, hm⟩ => ⟨1, hm.c0, rfl⟩
  | .fix h left body, ⟨H, _, _, _, CV, hB⟩ => ⟨2, hB.cell 0, rfl⟩
  | .chk h c, ⟨H, _, _, g2, own2, hB, _⟩ => ⟨2, hB.cell 0, rfl⟩
  | .done x, ⟨H, h, _, hh⟩ => by
    rcases hh with ⟨body, _, _, CV, hB⟩ | ⟨c, _, g2, own2, hB, _⟩
    · exact ⟨3, hB.cell 0, rfl⟩
    · exact ⟨3, hB.cell 0, rfl⟩
set_option maxRecDepth 100000 in
set_option maxHeartbeats 1000000 in
theorem wput_over (r : WR) (b : Int) (w : World) (h : Wat w g own r) (ho : r.over = true) :
    Calls Tryz.prog 24 #[.pointer (some ⟨g, 0, none⟩), .int .u8 b] w fun e w' => e = .returned (.tuple #[.bool false, .int .i64 20]) ∧ w' = w := by
  obtain ⟨x, c0, hx, h34⟩ := wat_cell h
  have h34 := h34 ho
  have C1 : Hid (Calls Tryz.prog 32 #[.pointer (some ⟨g, 0, none⟩)] w fun e w' => e = .returned (.bool true) ∧ w = w') := (wmade_yes x w c0 hx).mono fun e w' h => ⟨h.1, h.2.symm⟩
  clear h ho hx
  rcases h34 with rfl | rfl
  · go_enter Tryz.func24, Tryz.ntmps24
    go_wp2_with fail
    refine C1.out.mono ?_
    rintro e w1 ⟨rfl, rfl⟩
    go_wp2
    go_ret2
    exact ⟨rfl, rfl⟩
  · go_enter Tryz.func24, Tryz.ntmps24
    go_wp2_with fail
    refine C1.out.mono ?_
    rintro e w1 ⟨rfl, rfl⟩
    go_wp2
    go_ret2
    exact ⟨rfl, rfl⟩
set_option maxRecDepth 100000 in
set_option maxHeartbeats 2000000 in
theorem wput_head (B : Nat) (h : HD) (lines cntT : Nat) (line : List Int) (LV : Value) (cr : Bool) (b : Int) (w : World) (hm : Hm w g own (hmOf h lines cntT line LV cr)) (hi : HI h lines cntT line cr) (hb : 0 ≤ b ∧ b ≤ 255) (he : Env B w) (hB : B ≤ w.heap.size) (hOw : ∀ k, own k → B ≤ k) :
    Calls Tryz.prog 24 #[.pointer (some ⟨g, 0, none⟩), .int .u8 b] w fun e w' => e = .returned (.tuple #[.bool (puD wp0 (.ok (.head h lines cntT (crL line cr))) b), .int .i64 (puE wp0 (.ok (.head h lines cntT (crL line cr))) b)]) ∧ ∃ own', Wat w' g own' (puS wp0 (.ok (.head h lines cntT (crL line cr))) b) ∧ Did own w w' own' := by
  have c0 := hm.c0
  have C1 : Hid (Calls Tryz.prog 32 #[.pointer (some ⟨g, 0, none⟩)] w fun e w' => e = .returned (.bool true) ∧ w = w') := (wmade_yes 1 w c0 (by decide)).mono fun e w' h => ⟨h.1, h.2.symm⟩
  have C2 : Hid (Calls Tryz.prog 33 #[.pointer (some ⟨g, 1, none⟩), .int .u8 b] w fun e w' => e = .returned (.tuple #[.bool (hend lines cntT line cr b), .int .i64 (wst wp0 (.head h lines cntT (crL line cr)) b).2]) ∧ HTP g own h lines cntT line cr b w w') := whtake_any B g own h lines cntT line LV cr b w hm hi hb he hB hOw
  have HN : Bx (h.n ≤ 2048) := ⟨hi.n⟩
  have hmf : ∀ (fn : Fn) (first cap : Array Value) (w : World), (Instr.makeFunc fn first cap).run Tryz.prog w = .ok (.func fn first cap) w := fun _ _ _ _ => rfl
  clear hm hi he hB hOw
  unfold HTP at C2
  have PS : puS wp0 (.ok (.head h lines cntT (crL line cr))) b = if (wst wp0 (.head h lines cntT (crL line cr)) b).2 ≠ 0 then .bad else .ok (wst wp0 (.head h lines cntT (crL line cr)) b).1 := rfl
  have PE : puE wp0 (.ok (.head h lines cntT (crL line cr))) b = (wst wp0 (.head h lines cntT (crL line cr)) b).2 := rfl
  have PD : puD wp0 (.ok (.head h lines cntT (crL line cr))) b = decide ((wst wp0 (.head h lines cntT (crL line cr)) b).2 = 0 ∧ (wst wp0 (.head h lines cntT (crL line cr)) b).1.over = true) := by
    exact decide_eq_decide.2 ⟨fun h => h.2, fun h => ⟨rfl, h⟩⟩
  have HPS := Bx.mk PS
  have HPE := Bx.mk PE
  have HPD := Bx.mk PD
  clear PS PE PD
  generalize puS wp0 (.ok (.head h lines cntT (crL line cr))) b = RS at HPS ⊢
  generalize puE wp0 (.ok (.head h lines cntT (crL line cr))) b = RE at HPE ⊢
  generalize puD wp0 (.ok (.head h lines cntT (crL line cr))) b = RD at HPD ⊢
  generalize wst wp0 (.head h lines cntT (crL line cr)) b = ST at *
  obtain ⟨SS, E⟩ := ST
  generalize hend lines cntT line cr b = D at C2
  simp only at C2
  go_enter Tryz.func24, Tryz.ntmps24
  go_wp2_with fail
  refine C1.out.mono ?_
  rintro e w0 ⟨rfl, rfl⟩
  go_wp2_with fail
  refine C2.out.mono ?_
  rintro e w1 ⟨rfl, own1, hd1, ⟨H1, hm1⟩, hk1, hk2⟩
  have HD1 := Bx.mk hd1
  have HM1 := Bx.mk hm1
  have HK1 := Bx.mk hk1
  have HK2 := Bx.mk hk2
  clear hd1 hm1 hk1 hk2 c0 C1 C2
  by_cases h0 : E = 0
  · subst h0
    cases D with
    | true =>
      obtain ⟨hs1, LV2, hm2⟩ := HK2.out rfl
      have HM2 := Bx.mk hm2
      have HS1 : Bx (SS = bgQ h) := ⟨(Prod.mk.inj hs1).1⟩
      clear hs1 hm2 HK1 HK2
      go_wp2_with fail
      refine (wgo_head h lines (cntT + 1) LV2 _ HM2.out HN.out).mono ?_
      rintro e w2 ⟨rfl, own2, hw2, hd2⟩
      rw [← HS1.out] at hw2
      have HDD2 := Bx.mk hd2
      obtain ⟨x, k0, k1⟩ := wat_at hw2
      have HW2 := Bx.mk hw2
      generalize hov : SS.over = OV at k1
      have HOV := Bx.mk hov
      clear hw2 hd2 hov
      go_wp2
      go_ret2
      refine ⟨?_, own2, by rw [HPS.out]; exact HW2.out, HD1.out.trans HDD2.out⟩
      rw [HPE.out, HPD.out, HOV.out]
      cases OV <;> rfl
    | false =>
      obtain ⟨h2, l2, c2, line2, LV2, cr2, hs1, hi2, hm2⟩ := HK1.out rfl rfl
      have hw2 : Wat w1 g own1 (.ok SS) := by rw [hs1]; exact ⟨line2, LV2, cr2, rfl, hi2, hm2⟩
      have d0 := hm2.c0
      have HW2 := Bx.mk hw2
      have HOV : Bx (SS.over = false) := ⟨by rw [hs1]; rfl⟩
      clear hs1 hi2 hm2 hw2 HK1 HK2
      go_wp2
      go_ret2
      exact ⟨by rw [HPE.out, HPD.out, HOV.out]; rfl, own1, by rw [HPS.out]; exact HW2.out, HD1.out⟩
  · have hne : (E != 0) = true := by simpa using h0
    have HDE : Bx (decide (E = 0 ∧ SS.over = true) = false) := ⟨by simp [h0]⟩
    have HE0 := Bx.mk h0
    clear h0
    obtain ⟨hb1, hb2, hb3⟩ := Bk.store HM1.out rowBad rfl
    have HB1 := Bx.mk hb1
    have HB2 := Bx.mk hb2
    have HB3 := Bx.mk hb3
    clear hb1 hb2 hb3
    go_wp2_with (refine wpList_store_mid rfl 75 (.tmp 47) (.tmp 46) rfl g 0 rowBad rfl rfl HB3.out reader_info (by simp [Value.oneCell', rowBad]) ?_)
    go_ret2
    exact ⟨by rw [HPE.out, HPD.out, HDE.out]; rfl, own1, by rw [HPS.out, if_pos HE0.out]; exact HB1.out, HD1.out.trans (Did.same HB2.out)⟩
set_option maxRecDepth 100000 in
set_option maxHeartbeats 2000000 in
theorem wput_fix (h : HD) (left : Nat) (body : List Int) (b : Int) (w : World) (hw : Wat w g own (.ok (.fix h left body))) (hb : 0 ≤ b ∧ b ≤ 255) :
    Calls Tryz.prog 24 #[.pointer (some ⟨g, 0, none⟩), .int .u8 b] w fun e w' => e = .returned (.tuple #[.bool (puD wp0 (.ok (.fix h left body)) b), .int .i64 (puE wp0 (.ok (.fix h left body)) b)]) ∧ ∃ own', Wat w' g own' (puS wp0 (.ok (.fix h left body)) b) ∧ Did own w w' own' := by
  obtain ⟨H, hx, h1, h2, hf⟩ := hw
  have c0 : w.cell? ⟨g, 0, none⟩ = some (.int .i64 2) := by obtain ⟨CV, hB⟩ := hf; exact hB.cell 0
  have C1 : Hid (Calls Tryz.prog 32 #[.pointer (some ⟨g, 0, none⟩)] w fun e w' => e = .returned (.bool true) ∧ w = w') := (wmade_yes 2 w c0 (by decide)).mono fun e w' h => ⟨h.1, h.2.symm⟩
  have C2 : Hid (Calls Tryz.prog 34 #[.pointer (some ⟨g, 12, none⟩), .int .u8 b] w fun e w' => e = .returned (.tuple #[.bool (decide (left = 1)), .int .i64 0]) ∧ ∃ own', FixM w' g own' 2 H ((left - 1 : Nat) : Int) (body ++ [b]) ∧ Did own w w' own') := wbfix_any H left body b w hf h1 h2 hb
  have hmf : ∀ (fn : Fn) (first cap : Array Value) (w : World), (Instr.makeFunc fn first cap).run Tryz.prog w = .ok (.func fn first cap) w := fun _ _ _ _ => rfl
  have HX := Bx.mk hx
  have HLE : Bx (1 ≤ left ∧ body.length + left ≤ 2048) := ⟨h1, h2⟩
  clear hf hx h1 h2
  by_cases hl : left = 1
  · have HST : Bx (wst wp0 (.fix h left body) b = (.done (h.x (body ++ [b])), 0)) := ⟨by show (if left = 1 then _ else _) = _; rw [if_pos hl]⟩
    have HL1 := Bx.mk hl
    rw [decide_eq_true hl] at C2
    clear hl
    go_enter Tryz.func24, Tryz.ntmps24
    go_wp2_with fail
    refine C1.out.mono ?_
    rintro e w0 ⟨rfl, rfl⟩
    go_wp2_with fail
    refine C2.out.mono ?_
    rintro e w1 ⟨rfl, own1, ⟨CV, hB1⟩, hd1⟩
    have HB1 := Bx.mk hB1
    have HD1 := Bx.mk hd1
    have d0 : w1.cell? ⟨g, 0, none⟩ = some (.int .i64 2) := hB1.cell 0
    have f0 := hB1.fr 0
    have C3 : Hid (Calls Tryz.prog 35 #[.pointer (some ⟨g, 0, none⟩)] w1 fun e w' => e = .returned (.tuple #[]) ∧ w' = w1.setCell ⟨g, 0, none⟩ (.int .i64 3)) := wgo_body w1 d0 f0
    have k0 : (w1.setCell ⟨g, 0, none⟩ (.int .i64 3)).cell? ⟨g, 0, none⟩ = some (.int .i64 3) := (hB1.set 0 (.int .i64 3)).cell 0
    clear hB1 hd1 c0 C1 C2 d0
    go_wp2_with fail
    refine C3.out.mono ?_
    rintro e w2 ⟨rfl, rfl⟩
    go_wp2
    go_ret2
    have h9 : ((left - 1 : Nat) : Int) = 0 := by rw [HL1.out]; rfl
    refine ⟨by unfold puD puE; simp only [HST.out]; rfl, own1, ?_, HD1.out.trans (Did.same (HB1.out.kset _ _))⟩
    have h8 : puS wp0 (.ok (.fix h left body)) b = .ok (.done (h.x (body ++ [b]))) := by unfold puS; simp only [HST.out]; rfl
    rw [h8]
    have h7 := HB1.out.set 0 (.int .i64 3)
    rw [h9] at h7
    exact ⟨H, h, HX.out, .inl ⟨body ++ [b], rfl, by have := HLE.out; simp; omega, CV, h7⟩⟩
  · have HST : Bx (wst wp0 (.fix h left body) b = (.fix h (left - 1) (body ++ [b]), 0)) := ⟨by show (if left = 1 then _ else _) = _; rw [if_neg hl]⟩
    have HL1 := Bx.mk hl
    rw [decide_eq_false hl] at C2
    clear hl
    go_enter Tryz.func24, Tryz.ntmps24
    go_wp2_with fail
    refine C1.out.mono ?_
    rintro e w0 ⟨rfl, rfl⟩
    go_wp2_with fail
    refine C2.out.mono ?_
    rintro e w1 ⟨rfl, own1, ⟨CV, hB1⟩, hd1⟩
    have HB1 := Bx.mk hB1
    have HD1 := Bx.mk hd1
    have d0 : w1.cell? ⟨g, 0, none⟩ = some (.int .i64 2) := hB1.cell 0
    clear hB1 hd1 c0 C1 C2
    go_wp2
    go_ret2
    refine ⟨by unfold puD puE; simp only [HST.out]; rfl, own1, ?_, HD1.out⟩
    have h8 : puS wp0 (.ok (.fix h left body)) b = .ok (.fix h (left - 1) (body ++ [b])) := by unfold puS; simp only [HST.out]; rfl
    rw [h8]
    have h7 := HLE.out
    have h6 := HL1.out
    exact ⟨H, HX.out, by omega, by simp; omega, CV, HB1.out⟩
set_option maxRecDepth 100000 in
set_option maxHeartbeats 2000000 in
theorem wput_chk (h : HD) (c : CS) (b : Int) (w : World) (hw : Wat w g own (.ok (.chk h c))) (hb : 0 ≤ b ∧ b ≤ 255) :
    Calls Tryz.prog 24 #[.pointer (some ⟨g, 0, none⟩), .int .u8 b] w fun e w' => e = .returned (.tuple #[.bool (puD wp0 (.ok (.chk h c)) b), .int .i64 (puE wp0 (.ok (.chk h c)) b)]) ∧ ∃ own', Wat w' g own' (puS wp0 (.ok (.chk h c)) b) ∧ Did own w w' own' := by
  obtain ⟨H, hx, h1, hf⟩ := hw
  have c0 : w.cell? ⟨g, 0, none⟩ = some (.int .i64 2) := by obtain ⟨g2, own2, hB, _⟩ := hf; exact hB.cell 0
  have C1 : Hid (Calls Tryz.prog 32 #[.pointer (some ⟨g, 0, none⟩)] w fun e w' => e = .returned (.bool true) ∧ w = w') := (wmade_yes 2 w c0 (by decide)).mono fun e w' h => ⟨h.1, h.2.symm⟩
  have C2 : Hid (Calls Tryz.prog 34 #[.pointer (some ⟨g, 12, none⟩), .int .u8 b] w fun e w' => e = .returned (.tuple #[.bool (ptD 2048 c b), .int .i64 (stp 2048 c b).2]) ∧ ∃ own', ChkM w' g own' 2 H (ptS 2048 c b) ∧ Did own w w' own') := wbchk_any H c b w hf hb
  have hmf : ∀ (fn : Fn) (first cap : Array Value) (w : World), (Instr.makeFunc fn first cap).run Tryz.prog w = .ok (.func fn first cap) w := fun _ _ _ _ => rfl
  have HX := Bx.mk hx
  have HCI : Bx (∀ g2 own2, Rd w g2 own2 2048 c → (stp 2048 c b).2 = 0 → (stp 2048 c b).1.ph ≤ 10) := ⟨fun g2 own2 hR h0 => (hR.1.stp hb h0).2⟩
  have HCP : Bx ((stp 2048 c b).2 = 0 → (stp 2048 c b).1.ph ≤ 10) := ⟨fun h0 => by obtain ⟨g2, own2, _, hR, _⟩ := hf; exact HCI.out g2 own2 hR h0⟩
  clear hf hx HCI
  have hp : ¬ 10 ≤ c.ph := by omega
  by_cases h0 : (stp 2048 c b).2 = 0
  · have HSP : Bx (ptS 2048 c b = (stp 2048 c b).1) := ⟨ptS_ok hp h0⟩
    rw [HSP.out, h0] at C2
    by_cases h10 : (stp 2048 c b).1.ph = 10
    · have HST : Bx (wst wp0 (.chk h c) b = (.done (h.x (stp 2048 c b).1.body), 0)) := ⟨by show (if (stp 2048 c b).2 ≠ 0 then _ else if _ then _ else _) = _; rw [if_neg (by rw [h0]; simp), if_pos h10]⟩
      have hD : ptD 2048 c b = true := by unfold ptD; simp [h0, h10, h1]
      rw [hD] at C2
      generalize (stp 2048 c b).1 = c2 at *
      clear h0 h10 hD hp h1
      go_enter Tryz.func24, Tryz.ntmps24
      go_wp2_with fail
      refine C1.out.mono ?_
      rintro e w0 ⟨rfl, rfl⟩
      go_wp2_with fail
      refine C2.out.mono ?_
      rintro e w1 ⟨rfl, own1, ⟨g2, own2, hB1, hR1, hs1⟩, hd1⟩
      have HB1 := Bx.mk hB1
      have HR1 := Bx.mk hR1
      have HS1 := Bx.mk hs1
      have HD1 := Bx.mk hd1
      have d0 : w1.cell? ⟨g, 0, none⟩ = some (.int .i64 2) := hB1.cell 0
      have f0 := hB1.fr 0
      have C3 : Hid (Calls Tryz.prog 35 #[.pointer (some ⟨g, 0, none⟩)] w1 fun e w' => e = .returned (.tuple #[]) ∧ w' = w1.setCell ⟨g, 0, none⟩ (.int .i64 3)) := wgo_body w1 d0 f0
      have k0 : (w1.setCell ⟨g, 0, none⟩ (.int .i64 3)).cell? ⟨g, 0, none⟩ = some (.int .i64 3) := (hB1.set 0 (.int .i64 3)).cell 0
      clear hB1 hR1 hs1 hd1 c0 C1 C2 d0
      go_wp2_with fail
      refine C3.out.mono ?_
      rintro e w2 ⟨rfl, rfl⟩
      go_wp2
      go_ret2
      refine ⟨by unfold puD puE; simp only [HST.out]; rfl, own1, ?_, HD1.out.trans (Did.same (HB1.out.kset _ _))⟩
      have h8 : puS wp0 (.ok (.chk h c)) b = .ok (.done (h.x c2.body)) := by unfold puS; simp only [HST.out]; rfl
      rw [h8]
      exact ⟨H, h, HX.out, .inr ⟨c2, rfl, g2, own2, HB1.out.set 0 (.int .i64 3), HR1.out.kept (own2 := fun k => k = g) ((Kept.refl (fun k => k = g) w1).setCell (g := g) (.inl rfl) 0 _) (fun k hk hk2 => (HS1.out k hk).2 hk2), HS1.out⟩⟩
    · have HST : Bx (wst wp0 (.chk h c) b = (.chk h (stp 2048 c b).1, 0)) := ⟨by show (if (stp 2048 c b).2 ≠ 0 then _ else if _ then _ else _) = _; rw [if_neg (by rw [h0]; simp), if_neg h10]⟩
      have hD : ptD 2048 c b = false := by unfold ptD; simp [h10]
      have HP2 : Bx ((stp 2048 c b).1.ph < 10) := ⟨by have := HCP.out h0; omega⟩
      rw [hD] at C2
      generalize (stp 2048 c b).1 = c2 at *
      clear h0 h10 hD hp h1
      go_enter Tryz.func24, Tryz.ntmps24
      go_wp2_with fail
      refine C1.out.mono ?_
      rintro e w0 ⟨rfl, rfl⟩
      go_wp2_with fail
      refine C2.out.mono ?_
      rintro e w1 ⟨rfl, own1, hch, hd1⟩
      have d0 : w1.cell? ⟨g, 0, none⟩ = some (.int .i64 2) := by obtain ⟨g2, own2, hB1, _⟩ := hch; exact hB1.cell 0
      have HCH := Bx.mk hch
      have HD1 := Bx.mk hd1
      clear hch hd1 c0 C1 C2
      go_wp2
      go_ret2
      refine ⟨by unfold puD puE; simp only [HST.out]; rfl, own1, ?_, HD1.out⟩
      have h8 : puS wp0 (.ok (.chk h c)) b = .ok (.chk h c2) := by unfold puS; simp only [HST.out]; rfl
      rw [h8]
      exact ⟨H, HX.out, HP2.out, HCH.out⟩
  · have HST : Bx (wst wp0 (.chk h c) b = (.chk h c, (stp 2048 c b).2)) := ⟨by show (if (stp 2048 c b).2 ≠ 0 then _ else if _ then _ else _) = _; rw [if_pos h0]⟩
    have hD : ptD 2048 c b = false := by unfold ptD; simp [h0]
    rw [hD] at C2
    have hne : ((stp 2048 c b).2 != 0) = true := by simpa using h0
    have HNE := Bx.mk h0
    generalize (stp 2048 c b).2 = E at *
    clear h0 hD hp h1 HCP
    go_enter Tryz.func24, Tryz.ntmps24
    go_wp2_with fail
    refine C1.out.mono ?_
    rintro e w0 ⟨rfl, rfl⟩
    go_wp2_with fail
    refine C2.out.mono ?_
    rintro e w1 ⟨rfl, own1, ⟨g2, own2, hB1, _⟩, hd1⟩
    have HD1 := Bx.mk hd1
    obtain ⟨hb1, hb2, hb3⟩ := hB1.store rowBad rfl
    clear hB1 hd1 c0 C1 C2
    have HB1 := Bx.mk hb1
    have HB2 := Bx.mk hb2
    have HB3 := Bx.mk hb3
    clear hb1 hb2 hb3
    go_wp2_with (refine wpList_store_mid rfl 75 (.tmp 47) (.tmp 46) rfl g 0 rowBad rfl rfl HB3.out reader_info (by simp [Value.oneCell', rowBad]) ?_)
    go_ret2
    refine ⟨by unfold puD puE; simp only [HST.out]; simp [HNE.out], own1, ?_, HD1.out.trans (Did.same HB2.out)⟩
    have h8 : puS wp0 (.ok (.chk h c)) b = .bad := by unfold puS; simp only [HST.out]; simp [WS.over, HNE.out]
    rw [h8]
    exact HB1.out
set_option maxRecDepth 100000 in
/-- a byte -/
theorem wput_any (B : Nat) (r : WR) (b : Int) (w : World) (hw : Wat w g own r) (hb : 0 ≤ b ∧ b ≤ 255) (he : Env B w) (hB : B ≤ w.heap.size) (hOw : ∀ k, own k → B ≤ k) :
    Calls Tryz.prog 24 #[.pointer (some ⟨g, 0, none⟩), .int .u8 b] w fun e w' => e = .returned (.tuple #[.bool (puD wp0 r b), .int .i64 (puE wp0 r b)]) ∧ ∃ own', Wat w' g own' (puS wp0 r b) ∧ Did own w w' own' := by
  match r, hw with
  | .bad, hw =>
    refine (wput_over .bad b w hw rfl).mono ?_
    rintro e w' ⟨rfl, rfl⟩
    exact ⟨rfl, own, hw, Did.same (Kept.refl _ _)⟩
  | .ok (.done x), hw =>
    refine (wput_over (.ok (.done x)) b w hw rfl).mono ?_
    rintro e w' ⟨rfl, rfl⟩
    exact ⟨rfl, own, hw, Did.same (Kept.refl _ _)⟩
  | .ok (.fix h left body), hw => exact wput_fix h left body b w hw hb
  | .ok (.chk h c), hw => exact wput_chk h c b w hw hb
  | .ok (.head h lines cntT cur), ⟨line, LV, cr, hc, hi, hm⟩ =>
    subst hc
    exact wput_head B h lines cntT line LV cr b w hm hi hb he hB hOw
end Go.Proofs.YtpfijaojgeceeaaGreatDoor
