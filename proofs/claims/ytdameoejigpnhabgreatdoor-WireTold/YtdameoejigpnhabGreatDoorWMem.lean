/- A reader of requests in memory. No walk. -/
import Derived.Test.YtdameoejigpnhabGreatDoorWrf
import Derived.Test.YtdameoejigpnhabGreatDoorSlc
import Derived.Test.YtdameoejigpnhabGreatDoorWre
namespace Go.Proofs.YtdameoejigpnhabGreatDoor
open Go.RowKit
set_option linter.unusedVariables false

/-- the block of a reader, and a row of bytes beside it that is the reader's own -/
structure Bk (w : World) (g : Nat) (own : Nat → Prop) (cs : Array Value) (v : Value) (l : List Int) : Prop where
  byt : Byt l
  og : own g
  lt : ∀ k, own k → k < w.heap.size
  row : w.heap[g]? = some (.cells cs 52 (0, 0))
  vr : w.ownsRow 0 5 1 v l.length (bv l)
  ov : ∀ k, v.ownBlock = some k → own k
variable {w w' : World} {g : Nat} {own : Nat → Prop} {cs : Array Value} {v : Value} {l : List Int}
set_option maxRecDepth 100000 in
theorem Bk.cell (h : Bk w g own cs v l) (j : Nat) : w.cell? ⟨g, j, none⟩ = cs[j]? := cell_of_row w g j _ _ (0, 0) h.row
set_option maxRecDepth 100000 in
theorem Bk.fr (h : Bk w g own cs v l) (j : Nat) : w.frozen? ⟨g, j, none⟩ = false := frozen_of_row _ _ j _ _ h.row
set_option maxRecDepth 100000 in
theorem Bk.ne (h : Bk w g own cs v l) {k : Nat} (hk : v.ownBlock = some k) : k ≠ g := by
  rintro rfl
  rcases h.vr.2 with ⟨rfl, _⟩ | ⟨g', cap, cur, rfl, _, hg, _⟩
  · cases hk
  · obtain rfl : g' = k := by simpa [Value.ownBlock] using hk
    rw [h.row] at hg
    cases hg
set_option maxRecDepth 100000 in
theorem Bk.keep (h : Bk w g own cs v l) (hb : ∀ k, own k → w'.heap[k]? = w.heap[k]?) (hs : w.heap.size ≤ w'.heap.size) : Bk w' g own cs v l := by
  refine ⟨h.byt, h.og, fun k hk => Nat.lt_of_lt_of_le (h.lt k hk) hs, by rw [hb g h.og]; exact h.row, ⟨h.vr.1, ?_⟩, h.ov⟩
  rcases h.vr.2 with h2 | ⟨g', cap, cur, hv, hg, hh, r⟩
  · exact .inl h2
  · exact .inr ⟨g', cap, cur, hv, hg, by rw [hb g' (h.ov g' (by rw [hv]; rfl))]; exact hh, r⟩
set_option maxRecDepth 100000 in
theorem Bk.below (h : Bk w g own cs v l) (hb : Below w.heap.size w w') : Bk w' g own cs v l := h.keep (fun k hk => hb.block k (h.lt k hk)) hb.size
set_option maxRecDepth 100000 in
theorem Bk.drewN (h : Bk w g own cs v l) (q : Nat) : Bk (w.drewN q) g own cs v l := h.keep (fun _ _ => rfl) (Nat.le_refl _)
set_option maxRecDepth 100000 in
theorem Bk.set (h : Bk w g own cs v l) (j : Nat) (z : Value) : Bk (w.setCell ⟨g, j, none⟩ z) g own (cs.setIfInBounds j z) v l :=
  ⟨h.byt, h.og, fun k hk => by have := h.lt k hk; simpa [World.setCell] using this, heap_setCell_same w g j _ _ _ h.row, owns_setCells (vs := [z]) (o := j) h.vr (fun k hk => h.ne hk), h.ov⟩
set_option maxRecDepth 100000 in
theorem Bk.kset (h : Bk w g own cs v l) (j : Nat) (z : Value) : Kept own w (w.setCell ⟨g, j, none⟩ z) := (Kept.refl own w).setCell (.inl h.og) j z
set_option maxRecDepth 100000 in
/-- the row is forgotten -/
theorem Bk.nil (h : Bk w g own cs v l) : Bk w g own cs (.slice none 0 0) [] := ⟨Byt.nil, h.og, h.lt, h.row, World.ownsRow_nil _ _ _ _, fun k hk => by cases hk⟩
set_option maxRecDepth 100000 in
/-- the row is cut to nothing -/
theorem Bk.cut {a : Option Addr} {n c : Nat} (h : Bk w g own cs (.slice a n c) l) : Bk w g own cs (.slice a 0 c) [] := by
  refine ⟨Byt.nil, h.og, h.lt, h.row, ?_, fun k hk => h.ov k (by cases a <;> exact hk)⟩
  refine ⟨rfl, ?_⟩
  rcases h.vr.2 with ⟨hv, _⟩ | ⟨g', cap, cur, hv, hg, hh, hc, hm, hs, _⟩
  · left; cases hv; exact ⟨rfl, rfl⟩
  · right; cases hv; exact ⟨g', _, cur, rfl, hg, hh, Nat.zero_le _, hm, hs, by simp [bv]⟩
set_option maxRecDepth 100000 in
theorem Bk.slA {a : Option Addr} {n c : Nat} (h : Bk w g own cs (.slice a n c) l) : slA a 0 c = a := by
  unfold Go.Proofs.YtdameoejigpnhabGreatDoor.slA
  rcases h.vr.2 with ⟨hv, _⟩ | ⟨g', cap, cur, hv, _⟩
  · cases hv; rfl
  · cases hv
    split
    · rfl
    · rfl
set_option maxRecDepth 100000 in
/-- one byte more behind the row -/
theorem Bk.more {b : Int} {g4 cap4 H : Nat} {wA w4 : World} (h : Bk w g own cs v l) (hb : 0 ≤ b ∧ b ≤ 255) (hA : wA = w.alloc (.cells #[.int .u8 b] 5)) (ho : w4.ownsRow 0 5 1 (.slice (some ⟨g4, 0, none⟩) (l.length + 1) cap4) (l.length + 1) (bv l ++ [.int .u8 b])) (hg : wA.grownBy w4 v.ownBlock) (hl : v.ownBlock = some g4 ∨ g4 = H) (hH : H = w.heap.size + 1) (hlt : g4 < w4.heap.size) :
    Bk w4 g (fun k => own k ∨ (w.heap.size ≤ k ∧ k < w4.heap.size)) cs (.slice (some ⟨g4, 0, none⟩) (l.length + 1) cap4) (l ++ [b]) ∧ Kept own w w4 := by
  have hgl := h.lt g h.og
  have hsA : wA.heap.size = w.heap.size + 1 := by rw [hA]; simp
  have hrA : wA.heap[g]? = w.heap[g]? := by rw [hA]; exact ((Below.refl w.heap.size w).alloc (Nat.le_refl _) _).block g hgl
  have hr4 : w4.heap[g]? = some (.cells cs 52 (0, 0)) := by
    rw [hg.block g (by omega) (fun e => h.ne e.symm rfl), hrA]; exact h.row
  have hK : Kept own w w4 := by
    refine Kept.grown (w := wA) (by rw [hA]; exact (Kept.refl own w).alloc _) hg (fun k hk => .inl (h.ov k hk))
  refine ⟨⟨h.byt.append (Byt.cons hb Byt.nil), .inl h.og, fun k hk => ?_, hr4, ?_, fun k hk => ?_⟩, hK⟩
  · rcases hk with hk | hk
    · have := h.lt k hk; have := hK.size; omega
    · exact hk.2
  · rw [bv_append, List.length_append]; exact ho
  · obtain rfl : g4 = k := by simpa [Value.ownBlock] using hk
    rcases hl with h1 | h1
    · exact .inl (h.ov _ h1)
    · exact .inr ⟨by omega, hlt⟩
/-- what a head is in memory: bytes that came, the line till now, whether CR stands behind it, what was asked, how many further lines, whether authorized, how the body is framed, its length -/
structure HM where
  sz : Int
  line : List Int
  LV : Value
  cr : Bool
  m : ByteArray
  t : ByteArray
  k : ByteArray
  fu : Int
  au : Bool
  fr : Int
  ln : Int
def rowH (x : Int) (H : HM) (lf : Int) (CV PV : Value) : Array Value := #[.int .i64 x, .int .i64 H.sz, H.LV, .bool H.cr, .string H.m, .string H.t, .string H.k, .slice none 0 0, .int .i64 H.fu, .bool H.au, .int .i64 H.fr, .int .i64 H.ln, .int .i64 lf, CV, PV]
/-- a reader in its head -/
def Hm (w : World) (g : Nat) (own : Nat → Prop) (H : HM) : Prop := Bk w g own (rowH 1 H 0 (.slice none 0 0) (.pointer none)) H.LV H.line
def frN (h : HD) : Int := if h.enc = true then 2 else if h.len = true then 1 else 0
def hmOf (h : HD) (lines cnt : Nat) (line : List Int) (LV : Value) (cr : Bool) : HM := ⟨(cnt : Int), line, LV, cr, h.m, h.t, h.k, ((lines - 1 : Nat) : Int), h.auth, frN h, (h.n : Int)⟩
variable {H : HM}
set_option maxRecDepth 100000 in
theorem Hm.c0 (h : Hm w g own H) : w.cell? ⟨g, 0, none⟩ = some (.int .i64 1) := Bk.cell h 0
set_option maxRecDepth 100000 in
theorem Hm.c1 (h : Hm w g own H) : w.cell? ⟨g, 1, none⟩ = some (.int .i64 H.sz) := Bk.cell h 1
set_option maxRecDepth 100000 in
theorem Hm.c2 (h : Hm w g own H) : w.cell? ⟨g, 2, none⟩ = some H.LV := Bk.cell h 2
set_option maxRecDepth 100000 in
theorem Hm.c3 (h : Hm w g own H) : w.cell? ⟨g, 3, none⟩ = some (.bool H.cr) := Bk.cell h 3
set_option maxRecDepth 100000 in
theorem Hm.c4 (h : Hm w g own H) : w.cell? ⟨g, 4, none⟩ = some (.string H.m) := Bk.cell h 4
set_option maxRecDepth 100000 in
theorem Hm.c5 (h : Hm w g own H) : w.cell? ⟨g, 5, none⟩ = some (.string H.t) := Bk.cell h 5
set_option maxRecDepth 100000 in
theorem Hm.c6 (h : Hm w g own H) : w.cell? ⟨g, 6, none⟩ = some (.string H.k) := Bk.cell h 6
set_option maxRecDepth 100000 in
theorem Hm.c8 (h : Hm w g own H) : w.cell? ⟨g, 8, none⟩ = some (.int .i64 H.fu) := Bk.cell h 8
set_option maxRecDepth 100000 in
theorem Hm.c9 (h : Hm w g own H) : w.cell? ⟨g, 9, none⟩ = some (.bool H.au) := Bk.cell h 9
set_option maxRecDepth 100000 in
theorem Hm.c10 (h : Hm w g own H) : w.cell? ⟨g, 10, none⟩ = some (.int .i64 H.fr) := Bk.cell h 10
set_option maxRecDepth 100000 in
theorem Hm.c11 (h : Hm w g own H) : w.cell? ⟨g, 11, none⟩ = some (.int .i64 H.ln) := Bk.cell h 11
set_option maxRecDepth 100000 in
theorem Hm.fz (h : Hm w g own H) (j : Nat) : w.frozen? ⟨g, j, none⟩ = false := Bk.fr h j
set_option maxRecDepth 100000 in
theorem Hm.sSz (h : Hm w g own H) (z : Int) : Hm (w.setCell ⟨g, 1, none⟩ (.int .i64 z)) g own { H with sz := z } := Bk.set h 1 _
set_option maxRecDepth 100000 in
theorem Hm.sCr (h : Hm w g own H) (z : Bool) : Hm (w.setCell ⟨g, 3, none⟩ (.bool z)) g own { H with cr := z } := Bk.set h 3 _
set_option maxRecDepth 100000 in
theorem Hm.sM (h : Hm w g own H) (z : ByteArray) : Hm (w.setCell ⟨g, 4, none⟩ (.string z)) g own { H with m := z } := Bk.set h 4 _
set_option maxRecDepth 100000 in
theorem Hm.sT (h : Hm w g own H) (z : ByteArray) : Hm (w.setCell ⟨g, 5, none⟩ (.string z)) g own { H with t := z } := Bk.set h 5 _
set_option maxRecDepth 100000 in
theorem Hm.sK (h : Hm w g own H) (z : ByteArray) : Hm (w.setCell ⟨g, 6, none⟩ (.string z)) g own { H with k := z } := Bk.set h 6 _
set_option maxRecDepth 100000 in
theorem Hm.sFu (h : Hm w g own H) (z : Int) : Hm (w.setCell ⟨g, 8, none⟩ (.int .i64 z)) g own { H with fu := z } := Bk.set h 8 _
set_option maxRecDepth 100000 in
theorem Hm.sAu (h : Hm w g own H) (z : Bool) : Hm (w.setCell ⟨g, 9, none⟩ (.bool z)) g own { H with au := z } := Bk.set h 9 _
set_option maxRecDepth 100000 in
theorem Hm.sFr (h : Hm w g own H) (z : Int) : Hm (w.setCell ⟨g, 10, none⟩ (.int .i64 z)) g own { H with fr := z } := Bk.set h 10 _
set_option maxRecDepth 100000 in
theorem Hm.sLn (h : Hm w g own H) (z : Int) : Hm (w.setCell ⟨g, 11, none⟩ (.int .i64 z)) g own { H with ln := z } := Bk.set h 11 _
set_option maxRecDepth 100000 in
theorem Hm.below (h : Hm w g own H) (hb : Below w.heap.size w w') : Hm w' g own H := Bk.below h hb
set_option maxRecDepth 100000 in
theorem Hm.drewN (h : Hm w g own H) (q : Nat) : Hm (w.drewN q) g own H := Bk.drewN h q
set_option maxRecDepth 100000 in
theorem Hm.kset (h : Hm w g own H) (j : Nat) (z : Value) : Kept own w (w.setCell ⟨g, j, none⟩ z) := Bk.kset h j z
set_option maxRecDepth 100000 in
theorem Hm.kset' {a : World} (h : Hm w g own H) (k : Kept own a w) (j : Nat) (z : Value) : Kept own a (w.setCell ⟨g, j, none⟩ z) := k.setCell (.inl h.og) j z
end Go.Proofs.YtdameoejigpnhabGreatDoor
