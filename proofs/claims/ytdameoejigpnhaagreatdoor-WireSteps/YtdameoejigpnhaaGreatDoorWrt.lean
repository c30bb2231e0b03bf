/- The document's own reader in memory. No walk. The document's own reader takes a byte. What the document's own reader gives; two readers side by side. Two readers of requests side by side; truth values that came in. No walk. -/
import Derived.Test.YtdameoejigpnhaaGreatDoorWrr
import Derived.Test.YtdameoejigpnhaaGreatDoorWOpen
import Derived.Deep.Grids
namespace Go.Proofs.YtdameoejigpnhaaGreatDoor
open Go.RowKit
set_option linter.unusedVariables false

/-- its block, the bytes that came, the request -/
structure Qk (w : World) (g : Nat) (own : Nat → Prop) (cs : Array Value) (v : Value) (l : List Int) (vx : Value) (xb : List Int) : Prop where
  byt : Byt l
  og : own g
  lt : ∀ k, own k → k < w.heap.size
  row : w.heap[g]? = some (.cells cs 41 (0, 0))
  vr : w.ownsRow 0 5 1 v l.length (bv l)
  ov : ∀ k, v.ownBlock = some k → own k
  xbyt : Byt xb
  xr : w.ownsRow 0 5 1 vx xb.length (bv xb)
  ox : ∀ k, vx.ownBlock = some k → own k
variable {w w' : World} {g : Nat} {own : Nat → Prop} {cs : Array Value} {v vx : Value} {l xb : List Int}
set_option maxRecDepth 100000 in
theorem Qk.cell (h : Qk w g own cs v l vx xb) (j : Nat) : w.cell? ⟨g, j, none⟩ = cs[j]? := cell_of_row w g j _ _ (0, 0) h.row
set_option maxRecDepth 100000 in
theorem Qk.fr (h : Qk w g own cs v l vx xb) (j : Nat) : w.frozen? ⟨g, j, none⟩ = false := frozen_of_row _ _ j _ _ h.row
set_option maxRecDepth 100000 in
theorem own_ne {l : List Int} {v : Value} {n : Nat} (hr : w.heap[g]? = some (.cells cs 41 (0, 0))) (hv : w.ownsRow 0 5 1 v n (bv l)) {k : Nat} (hk : v.ownBlock = some k) : k ≠ g := by
  rintro rfl
  rcases hv.2 with ⟨rfl, _⟩ | ⟨g', cap, cur, rfl, _, hg, _⟩
  · cases hk
  · obtain rfl : g' = k := by simpa [Value.ownBlock] using hk
    rw [hr] at hg
    cases hg
set_option maxRecDepth 100000 in
theorem own_keep {l : List Int} {v : Value} {n : Nat} (hv : w.ownsRow 0 5 1 v n (bv l)) (hb : ∀ k, v.ownBlock = some k → w'.heap[k]? = w.heap[k]?) : w'.ownsRow 0 5 1 v n (bv l) := by
  refine ⟨hv.1, ?_⟩
  rcases hv.2 with h2 | ⟨g', cap, cur, hv, hg, hh, r⟩
  · exact .inl h2
  · exact .inr ⟨g', cap, cur, hv, hg, by rw [hb g' (by rw [hv]; rfl)]; exact hh, r⟩
set_option maxRecDepth 100000 in
theorem Qk.keep (h : Qk w g own cs v l vx xb) (hb : ∀ k, own k → w'.heap[k]? = w.heap[k]?) (hs : w.heap.size ≤ w'.heap.size) : Qk w' g own cs v l vx xb :=
  ⟨h.byt, h.og, fun k hk => Nat.lt_of_lt_of_le (h.lt k hk) hs, by rw [hb g h.og]; exact h.row, own_keep h.vr (fun k hk => hb k (h.ov k hk)), h.ov, h.xbyt, own_keep h.xr (fun k hk => hb k (h.ox k hk)), h.ox⟩
set_option maxRecDepth 100000 in
theorem Qk.below (h : Qk w g own cs v l vx xb) (hb : Below w.heap.size w w') : Qk w' g own cs v l vx xb := h.keep (fun k hk => hb.block k (h.lt k hk)) hb.size
set_option maxRecDepth 100000 in
theorem Qk.wide {own2 : Nat → Prop} (h : Qk w g own cs v l vx xb) (h1 : ∀ k, own k → own2 k) (h2 : ∀ k, own2 k → k < w.heap.size) : Qk w g own2 cs v l vx xb := ⟨h.byt, h1 g h.og, h2, h.row, h.vr, fun k hk => h1 k (h.ov k hk), h.xbyt, h.xr, fun k hk => h1 k (h.ox k hk)⟩
set_option maxRecDepth 100000 in
theorem Qk.set (h : Qk w g own cs v l vx xb) (j : Nat) (z : Value) : Qk (w.setCell ⟨g, j, none⟩ z) g own (cs.setIfInBounds j z) v l vx xb :=
  ⟨h.byt, h.og, fun k hk => by have := h.lt k hk; simpa [World.setCell] using this, heap_setCell_same w g j _ _ _ h.row, owns_setCells (vs := [z]) (o := j) h.vr (fun k hk => own_ne h.row h.vr hk), h.ov, h.xbyt, owns_setCells (vs := [z]) (o := j) h.xr (fun k hk => own_ne h.row h.xr hk), h.ox⟩
set_option maxRecDepth 100000 in
theorem Qk.kset {a : World} (h : Qk w g own cs v l vx xb) (hk : Kept own a w) (j : Nat) (z : Value) : Kept own a (w.setCell ⟨g, j, none⟩ z) := hk.setCell (.inl h.og) j z
set_option maxRecDepth 100000 in
/-- another request -/
theorem Qk.req {vy : Value} {yb : List Int} (h : Qk w g own cs v l vx xb) (h1 : Byt yb) (h2 : w.ownsRow 0 5 1 vy yb.length (bv yb)) (h3 : ∀ k, vy.ownBlock = some k → own k) : Qk w g own cs v l vy yb := ⟨h.byt, h.og, h.lt, h.row, h.vr, h.ov, h1, h2, h3⟩
set_option maxRecDepth 100000 in
theorem Qk.nil (h : Qk w g own cs v l vx xb) : Qk w g own cs (.slice none 0 0) [] vx xb := ⟨Byt.nil, h.og, h.lt, h.row, World.ownsRow_nil _ _ _ _, fun k hk => (by cases hk), h.xbyt, h.xr, h.ox⟩
set_option maxRecDepth 100000 in
theorem Qk.noreq (h : Qk w g own cs v l vx xb) : Qk w g own cs v l (.slice none 0 0) [] := h.req Byt.nil (World.ownsRow_nil _ _ _ _) (fun k hk => by cases hk)
set_option maxRecDepth 100000 in
/-- one byte more behind the row, and its slice is stored -/
theorem Qk.more {b : Int} {g4 cap4 H : Nat} {wA w4 : World} (h : Qk w g own cs v l (.slice none 0 0) []) (hb : 0 ≤ b ∧ b ≤ 255) (hA : wA = w.alloc (.cells #[.int .u8 b] 5)) (ho : w4.ownsRow 0 5 1 (.slice (some ⟨g4, 0, none⟩) (l.length + 1) cap4) (l.length + 1) (bv l ++ [.int .u8 b])) (hg : wA.grownBy w4 v.ownBlock) (hl : v.ownBlock = some g4 ∨ g4 = H) (hH : H = w.heap.size + 1) (hlt : g4 < w4.heap.size) :
    Qk w4 g (fun k => own k ∨ (w.heap.size ≤ k ∧ k < w4.heap.size)) cs (.slice (some ⟨g4, 0, none⟩) (l.length + 1) cap4) (l ++ [b]) (.slice none 0 0) [] ∧ Kept own w w4 := by
  have hgl := h.lt g h.og
  have hsA : wA.heap.size = w.heap.size + 1 := by rw [hA]; simp
  have hrA : wA.heap[g]? = w.heap[g]? := by rw [hA]; exact ((Below.refl w.heap.size w).alloc (Nat.le_refl _) _).block g hgl
  have hr4 : w4.heap[g]? = some (.cells cs 41 (0, 0)) := by
    rw [hg.block g (by omega) (fun e => own_ne h.row h.vr e.symm rfl), hrA]; exact h.row
  have hK : Kept own w w4 := by
    refine Kept.grown (w := wA) (by rw [hA]; exact (Kept.refl own w).alloc _) hg (fun k hk => .inl (h.ov k hk))
  refine ⟨⟨h.byt.append (Byt.cons hb Byt.nil), .inl h.og, fun k hk => ?_, hr4, ?_, fun k hk => ?_, Byt.nil, World.ownsRow_nil _ _ _ _, fun k hk => (by cases hk)⟩, hK⟩
  · rcases hk with hk | hk
    · have := h.lt k hk; have := hK.size; omega
    · exact hk.2
  · rw [bv_append, List.length_append]; exact ho
  · obtain rfl : g4 = k := by simpa [Value.ownBlock] using hk
    rcases hl with h1 | h1
    · exact .inl (h.ov _ h1)
    · exact .inr ⟨by omega, hlt⟩
def rowQ (v : Value) (bad done : Bool) (X : WX) (vx : Value) : Array Value := #[v, .bool bad, .bool done, .string X.m, .string X.t, .string X.k, vx]
set_option maxRecDepth 100000 in
/-- the request is whole -/
theorem Qk.done {X : WX} (h : Qk w g own (rowQ v false false wx0 (.slice none 0 0)) v l (.slice none 0 0) []) (h1 : Byt X.b) (h2 : w.ownsRow 0 5 1 vx X.b.length (bv X.b)) (h3 : ∀ k, vx.ownBlock = some k → own k) :
    Qk ((w.setCell ⟨g, 2, none⟩ (.bool true)).setCells g 3 #[.string X.m, .string X.t, .string X.k, vx].toList) g own (rowQ v false true X vx) v l vx X.b := by
  have e := (((((h.set 2 (.bool true)).set 3 (.string X.m)).set 4 (.string X.t)).set 5 (.string X.k)).set 6 vx)
  refine Qk.req e h1 (owns_setCells (vs := [.string X.m, .string X.t, .string X.k, vx]) (o := 3) (owns_setCells (vs := [.bool true]) (o := 2) h2 (fun k hk => own_ne h.row h2 hk)) (fun k hk => own_ne h.row h2 hk)) h3
set_option maxRecDepth 100000 in
/-- .. and is taken -/
theorem Qk.gone {X : WX} (h : Qk w g own (rowQ v false true X vx) v l vx X.b) :
    Qk (((w.setCell ⟨g, 0, none⟩ (.slice none 0 0)).setCell ⟨g, 2, none⟩ (.bool false)).setCells g 3 reqZ.toList) g own (rowQ (.slice none 0 0) false false wx0 (.slice none 0 0)) (.slice none 0 0) [] (.slice none 0 0) [] :=
  ((((((h.set 0 (.slice none 0 0)).set 2 (.bool false)).set 3 (.string ⟨#[]⟩)).set 4 (.string ⟨#[]⟩)).set 5 (.string ⟨#[]⟩)).set 6 (.slice none 0 0)).nil.noreq
/-- .. that says what a reader of the program says -/
def Xq (w : World) (g : Nat) (own : Nat → Prop) (r : WR) (N : Nat) : Prop := ∃ B bad done X v vx, Qk w g own (rowQ v bad done X vx) v B vx X.b ∧ QI wp0 B bad done X r ∧ B.length ≤ N ∧ (done = false → X = wx0 ∧ vx = .slice none 0 0)
variable {r : WR} {N : Nat}
set_option maxRecDepth 100000 in
theorem Xq.og (h : Xq w g own r N) : own g := by obtain ⟨B, b, d, X, v, vx, h, _⟩ := h; exact h.og
set_option maxRecDepth 100000 in
theorem Xq.lt (h : Xq w g own r N) : ∀ k, own k → k < w.heap.size := by obtain ⟨B, b, d, X, v, vx, h, _⟩ := h; exact h.lt
set_option maxRecDepth 100000 in
theorem Xq.keep (h : Xq w g own r N) (hb : ∀ k, own k → w'.heap[k]? = w.heap[k]?) (hs : w.heap.size ≤ w'.heap.size) : Xq w' g own r N := by obtain ⟨B, b, d, X, v, vx, h, h2⟩ := h; exact ⟨B, b, d, X, v, vx, h.keep hb hs, h2⟩
set_option maxRecDepth 100000 in
theorem Xq.below (h : Xq w g own r N) (hb : Below w.heap.size w w') : Xq w' g own r N := h.keep (fun k hk => hb.block k (h.lt k hk)) hb.size
set_option maxRecDepth 100000 in
theorem Xq.kept {own2 : Nat → Prop} (h : Xq w g own r N) (hb : Kept own2 w w') (hd : ∀ k, own k → ¬ own2 k) : Xq w' g own r N := h.keep (fun k hk => hb.block k (h.lt k hk) (hd k hk)) hb.size
set_option maxRecDepth 100000 in
theorem Xq.drewN (h : Xq w g own r N) (q : Nat) : Xq (w.drewN q) g own r N := h.keep (fun _ _ => rfl) (Nat.le_refl _)
set_option maxRecDepth 100000 in
theorem Xq.idle (h : Xq w g own r N) : ∃ v n c, w.cell? ⟨g, 0, none⟩ = some (.slice v n c) ∧ idl r = ((n : Int) == 0) := by
  obtain ⟨B, b, d, X, v, vx, hq, hi, _⟩ := h
  obtain ⟨a, c, rfl, _⟩ := own_slice hq.vr
  exact ⟨a, B.length, c, hq.cell 0, by rw [hi.idle, show ((B.length : Int) == 0) = decide ((B.length : Int) = 0) from rfl]; exact decide_eq_decide.2 (by omega)⟩
end Go.Proofs.YtdameoejigpnhaaGreatDoor
namespace Go.Proofs.YtdameoejigpnhaaGreatDoor
open Go.RowKit
set_option linter.unusedVariables false

set_option maxRecDepth 100000 in
theorem stp_not3 {most : Nat} {s : CS} {b : Int} : (stp most s b).2 ≠ 3 := by
  by_cases h : 10 ≤ s.ph
  · rw [stp_over b h]; show (20 : Int) ≠ 3; decide
  · obtain ⟨ph, n, body⟩ := s
    match ph, h with
    | 0, _ | 1, _ | 2, _ | 3, _ | 4, _ | 5, _ | 6, _ | 7, _ | 8, _ | 9, _ =>
      simp only [Go.Proofs.YtdameoejigpnhaaGreatDoor.stp]
      repeat' split
      all_goals simp
    | (k + 10), h => exact absurd (show 10 ≤ k + 10 by omega) h
set_option maxRecDepth 100000 in
theorem say_not3 (h : HD) (n v : List Int) : (sayV h n v).2 ≠ 3 := by
  unfold sayV
  repeat' split
  all_goals simp
set_option maxRecDepth 100000 in
theorem wst_not3 (s : WS) (b : Int) : (wst wp0 s b).2 ≠ 3 := by
  cases s with
  | head h lines cnt cur =>
    simp only [wst]
    split
    · simp
    · split
      · unfold eol
        split
        · split <;> simp
        · split
          · simp
          · split
            · simp
            · show (furV h _).2 ≠ 3
              unfold furV
              split
              · simp
              · exact say_not3 _ _ _
      · split <;> simp
  | fix h left body => simp only [wst]; split <;> simp
  | chk h c =>
    simp only [wst]
    split
    · exact stp_not3
    · split <;> simp
  | done x => simp [wst]
set_option maxRecDepth 100000 in
theorem pu_not3 (r : WR) (b : Int) : puE wp0 r b ≠ 3 := by
  cases r with
  | bad => show (20 : Int) ≠ 3; decide
  | ok s => exact wst_not3 s b
set_option maxRecDepth 100000 in
theorem there_mid {w : World} {g : Nat} {cs : Array Value} {t : TypeId} (h : w.heap[g]? = some (.cells cs t (0, 0))) (o n : Nat) (hn : o + n ≤ cs.size) : w.there g o n := fun j hj => by
  have := there_row h (o + j) (by omega)
  rwa [Nat.zero_add] at this
set_option maxRecDepth 100000 in
set_option maxHeartbeats 2000000 in
theorem rput_any (g : Nat) (own : Nat → Prop) (r : WR) (N : Nat) (b : Int) (w : World) (h : Xq w g own r N) (hN : N ≤ 100000) (hb : 0 ≤ b ∧ b ≤ 255) :
    Calls Tryz.prog 18 #[.pointer (some ⟨g, 0, none⟩), .int .u8 b] w fun e w' => e = .returned (.tuple #[.bool (puD wp0 r b), .int .i64 (puE wp0 r b)]) ∧ ∃ own', Xq w' g own' (puS wp0 r b) (N + 1) ∧ Did own w w' own' := by
  obtain ⟨B, bad, done, X, v, vx, hQ, hI, hBN, hZ⟩ := h
  have k1 : w.cell? ⟨g, 1, none⟩ = some (.bool bad) := hQ.cell 1
  have k2 : w.cell? ⟨g, 2, none⟩ = some (.bool done) := hQ.cell 2
  have HQ := Bx.mk hQ
  have HI := Bx.mk hI
  cases bad with
  | true =>
    obtain ⟨o1, o2, o3⟩ := hI.over (.inl rfl) b
    have HO : Bx (puS wp0 r b = r ∧ puE wp0 r b = 20 ∧ puD wp0 r b = false) := ⟨o1, o2, o3⟩
    have HZ := Bx.mk hZ
    clear hQ hI o1 o2 o3 hZ
    go_enter Tryz.func18, Tryz.ntmps18
    go_wp2
    go_ret2
    exact ⟨by rw [HO.out.2.1, HO.out.2.2]; rfl, own, ⟨B, true, done, X, v, vx, HQ.out, by rw [HO.out.1]; exact HI.out, by omega, HZ.out⟩, Did.same (Kept.refl _ _)⟩
  | false =>
    cases done with
    | true =>
      obtain ⟨o1, o2, o3⟩ := hI.over (.inr rfl) b
      have HO : Bx (puS wp0 r b = r ∧ puE wp0 r b = 20 ∧ puD wp0 r b = false) := ⟨o1, o2, o3⟩
      have HZ := Bx.mk hZ
      clear hQ hI o1 o2 o3 hZ
      go_enter Tryz.func18, Tryz.ntmps18
      go_wp2
      go_ret2
      exact ⟨by rw [HO.out.2.1, HO.out.2.2]; rfl, own, ⟨B, false, true, X, v, vx, HQ.out, by rw [HO.out.1]; exact HI.out, by omega, HZ.out⟩, Did.same (Kept.refl _ _)⟩
    | false =>
      obtain ⟨rfl, rfl⟩ := hZ rfl
      obtain ⟨NB, hNB⟩ : ∃ n, n = B.length := ⟨_, rfl⟩
      have hvr := hQ.vr
      rw [← hNB] at hvr hBN
      obtain ⟨av, cv, rfl⟩ := own_sl hvr
      have HNB := Bx.mk hNB
      have k0 : w.cell? ⟨g, 0, none⟩ = some (.slice av NB cv) := hQ.cell 0
      have HBB : Bx (Byt (B ++ [b])) := ⟨hQ.byt.append (Byt.cons hb Byt.nil)⟩
      have HV : Bx (w.ownsRow 0 5 1 (.slice av NB cv) NB (bv B)) := ⟨hvr⟩
      have hLL : (B ++ [b]).length = NB + 1 := by rw [List.length_append, hNB]; rfl
      have HLL := Bx.mk hLL
      obtain ⟨p1, p2, p3, p4⟩ := hI.put b
      have HP1 := Bx.mk p1
      have HP2 := Bx.mk p2
      have HP3 := Bx.mk p3
      have HP4 := Bx.mk p4
      have HN3 := Bx.mk (pu_not3 r b)
      generalize hT : runQ wp0 ws0 (B ++ [b]) 0 = T at *
      have HT := Bx.mk hT
      obtain ⟨i0, hi, hz0, hz1, hz2⟩ := info_parts Tryz.info5
      clear hQ hI hvr hNB hZ p1 p2 p3 p4 hT hLL HI
      go_enter Tryz.func18, Tryz.ntmps18
      go_wp2_with (at_builtin; refine wpList_append_lies _ rfl (.tmp 23) (.tmp 25) 22 rfl 0 5 i0 (.int .u8 0) 1 1 Tryz.underlying22 hi hz0 hz1 hz2 rfl (by decide) _ NB (bv B) rfl (HV.out.alloc _) ⟨w.heap.size, 0, none⟩ 1 1 [.int .u8 b] rfl rfl (World.news_of_block (heap_alloc_new w _)) (by simp [Value.oneCell']) (by decide) (by unfold maxLen; omega) (by omega) (Nat.zero_le _) _ rfl ?_; intro g4 cap4 w4 hown4 hgr4 hl4 hlt4; have hown5 : w4.ownsRow 0 5 1 (.slice (some ⟨g4, 0, none⟩) (B.length + 1) cap4) (B.length + 1) (bv B ++ [.int .u8 b]) := (by rw [← HNB.out]; exact hown4); obtain ⟨hQ4, hK4⟩ := HQ.out.more hb rfl hown5 hgr4 hl4 (by simp) hlt4; rw [← HNB.out] at hQ4; have k3 : w4.cell? ⟨g, 0, none⟩ = some (.slice av NB cv) := hQ4.cell 0; have f3 : w4.frozen? ⟨g, 0, none⟩ = false := hQ4.fr 0; have HQ4 := Bx.mk hQ4; have HK4 := Bx.mk hK4; have HS4 := Bx.mk hK4.size; clear hown4 hown5 hgr4 hl4 hlt4 hi hz0 hz1 hz2 hQ4 hK4 k0 k1 k2)
      have hQ5 : Qk (w4.setCell ⟨g, 0, none⟩ (.slice (some ⟨g4, 0, none⟩) (NB + 1) cap4)) g (fun k => own k ∨ (w.heap.size ≤ k ∧ k < w4.heap.size)) (rowQ (.slice (some ⟨g4, 0, none⟩) (NB + 1) cap4) false false wx0 (.slice none 0 0)) (.slice (some ⟨g4, 0, none⟩) (NB + 1) cap4) (B ++ [b]) (.slice none 0 0) [] := HQ4.out.set 0 _
      have hK5 : Kept own w (w4.setCell ⟨g, 0, none⟩ (.slice (some ⟨g4, 0, none⟩) (NB + 1) cap4)) := HK4.out.setCell (.inl HQ.out.og) 0 _
      have hs5 : (w4.setCell ⟨g, 0, none⟩ (.slice (some ⟨g4, 0, none⟩) (NB + 1) cap4)).heap.size = w4.heap.size := by simp [World.setCell]
      rw [← hs5] at hQ5
      have HQ5 := Bx.mk hQ5
      have HK5 := Bx.mk hK5
      clear k3 f3 HQ4 HK4 HS4 hQ5 hK5 hs5
      generalize w4.setCell ⟨g, 0, none⟩ (.slice (some ⟨g4, 0, none⟩) (NB + 1) cap4) = W5 at *
      have hvr5 := HQ5.out.vr
      obtain ⟨a5, c5, hv5, hbt5⟩ := Bts.of_owns hvr5 HBB.out
      rw [HLL.out] at hv5 hbt5
      cases hv5
      have HBT5 := Bx.mk hbt5
      clear hvr5 hbt5
      refine (rwholeq_any _ (NB + 1) _ (B ++ [b]) _ HBT5.out (by omega)).mono ?_
      rintro e w6 ⟨v6, rfl, hby6, hown6, hb6⟩
      rw [HT.out] at hby6 hown6 ⊢
      obtain ⟨T1, n6, E6⟩ := T
      simp only at hby6 hown6 HP1 HP3 ⊢
      obtain ⟨av6, cv6, rfl⟩ := own_sl hown6
      have hQ6 := HQ5.out.below hb6
      have hK6 : Kept own w w6 := HK5.out.trans' (Kept.of_below hb6)
      have hal : Below w6.heap.size w6 (w6.alloc (.cells #[.string T1.m, .string T1.t, .string T1.k, .slice av6 T1.b.length cv6] 26)) := (Below.refl _ _).alloc (Nat.le_refl _) _
      have hQ7 := (hQ6.wide (own2 := fun k => own k ∨ (w.heap.size ≤ k ∧ k < w6.heap.size)) (fun k hk => by rcases hk with h1 | h1; exact .inl h1; exact .inr ⟨h1.1, by have := hb6.size; omega⟩) (fun k hk => by rcases hk with h1 | h1; exact hQ6.lt k (.inl h1); exact h1.2)).below hal
      have hK7 := hK6.below hal
      have hV7 : (w6.alloc (.cells #[.string T1.m, .string T1.t, .string T1.k, .slice av6 T1.b.length cv6] 26)).heap[w6.heap.size]? = some (.cells #[.string T1.m, .string T1.t, .string T1.k, .slice av6 T1.b.length cv6] 26 (0, 0)) := heap_alloc_new w6 _
      have hO7 : (w6.alloc (.cells #[.string T1.m, .string T1.t, .string T1.k, .slice av6 T1.b.length cv6] 26)).ownsRow 0 5 1 (.slice av6 T1.b.length cv6) T1.b.length (bv T1.b) := owns_below (own_lo hown6 (Nat.zero_le _)) hal
      have hX7 : ∀ k, (Value.slice av6 T1.b.length cv6).ownBlock = some k → own k ∨ (w.heap.size ≤ k ∧ k < w6.heap.size) := fun k hk => by
        have h1 := own_ge hown6 k hk
        have h2 := HK5.out.size
        refine .inr ⟨by omega, ?_⟩
        rcases hown6.2 with ⟨h3, _⟩ | ⟨g', cap', cur, h3, _, h4, _⟩
        · rw [h3] at hk; cases hk
        · rw [h3] at hk; cases hk; exact (Array.getElem?_eq_some_iff.1 h4).1
      have hNg : g ≠ w6.heap.size := by have := hQ6.lt g hQ6.og; omega
      have HS7 : Bx (w6.heap.size ≤ (w6.alloc (.cells #[.string T1.m, .string T1.t, .string T1.k, .slice av6 T1.b.length cv6] 26)).heap.size) := ⟨hal.size⟩
      have HBY6 := Bx.mk hby6
      have HQ7 := Bx.mk hQ7
      have HK7 := Bx.mk hK7
      have HV7 := Bx.mk hV7
      have HO7 := Bx.mk hO7
      have HX7 := Bx.mk hX7
      have HONE := Bx.mk (req_one T1.m T1.t T1.k (.slice av6 T1.b.length cv6) rfl)
      obtain ⟨W7, hW7⟩ : ∃ W7, w6.alloc (.cells #[.string T1.m, .string T1.t, .string T1.k, .slice av6 T1.b.length cv6] 26) = W7 := ⟨_, rfl⟩
      rw [hW7] at HQ7 HK7 HV7 HO7 HS7
      have HW7 := Bx.mk hW7
      clear hQ6 hK6 hal hQ7 hK7 hV7 hO7 hX7 hb6 hown6 hby6 hW7 HQ5 HK5 HBT5 HV
      unfold reqV
      try simp only
      have HL2 : Bx ((B ++ [b]).length ≤ N + 1) := ⟨by rw [HLL.out]; omega⟩
      by_cases hE : puE wp0 r b ≠ 0
      · obtain ⟨hq, hd⟩ := HP2.out hE
        have HE6 : E6 = puE wp0 r b := by rw [HP1.out, if_pos hE]
        have h3 := HN3.out
        have HQI := Bx.mk hq
        have HD := Bx.mk hd
        rw [← HE6] at hE h3
        have e0 : (E6 == 0) = false := by simpa using hE
        have e3 : (E6 != 3) = true := by simpa using h3
        have HE6B := Bx.mk HE6
        have k1 : W7.cell? ⟨g, 1, none⟩ = some (.bool false) := HQ7.out.cell 1
        have f1 : W7.frozen? ⟨g, 1, none⟩ = false := HQ7.out.fr 1
        have HFIN : Bx (Qk (W7.setCell ⟨g, 1, none⟩ (.bool true)) g (fun k => own k ∨ (w.heap.size ≤ k ∧ k < w6.heap.size)) (rowQ (.slice (some ⟨g4, 0, none⟩) (NB + 1) cap4) true false wx0 (.slice none 0 0)) (.slice (some ⟨g4, 0, none⟩) (NB + 1) cap4) (B ++ [b]) (.slice none 0 0) [] ∧ Kept own w (W7.setCell ⟨g, 1, none⟩ (.bool true))) := ⟨HQ7.out.set 1 _, HK7.out.setCell (.inl HQ.out.og) 1 _⟩
        have HS9 : Bx (w6.heap.size ≤ (W7.setCell ⟨g, 1, none⟩ (.bool true)).heap.size) := ⟨by have := HS7.out; simpa [World.setCell] using this⟩
        clear hE h3 hq hd HE6 HP1 HP2 HP3 HP4
        go_wp2_with (rw [HW7.out])
        go_ret2
        exact ⟨by rw [HD.out, ← HE6B.out]; rfl, _, ⟨B ++ [b], true, false, wx0, _, _, HFIN.out.1, HQI.out, HL2.out, fun _ => ⟨rfl, rfl⟩⟩, HFIN.out.2, fun k hk => by rcases hk with h1 | h1; exact .inl h1; exact .inr ⟨h1.1, Nat.lt_of_lt_of_le h1.2 HS9.out⟩⟩
      · have hE0 : puE wp0 r b = 0 := by simpa using hE
        cases hd : puD wp0 r b with
        | true =>
          have hq := HP3.out hE0 hd
          have HQI := Bx.mk hq
          have HE6 : E6 = 0 := by rw [HP1.out, if_neg hE, if_pos hd]
          have HE0 := Bx.mk hE0
          have HDD := Bx.mk hd
          subst HE6
          have k2 : W7.drew.cell? ⟨g, 2, none⟩ = some (.bool false) := HQ7.out.cell 2
          have f2 : W7.drew.frozen? ⟨g, 2, none⟩ = false := HQ7.out.fr 2
          have hQ8 := HQ7.out.keep (w' := W7.drew) (fun _ _ => rfl) (Nat.le_refl _)
          have HFIN : Bx (Qk ((W7.drew.setCell ⟨g, 2, none⟩ (.bool true)).setCells g 3 #[.string T1.m, .string T1.t, .string T1.k, .slice av6 T1.b.length cv6].toList) g (fun k => own k ∨ (w.heap.size ≤ k ∧ k < w6.heap.size)) (rowQ (.slice (some ⟨g4, 0, none⟩) (NB + 1) cap4) false true T1 (.slice av6 T1.b.length cv6)) (.slice (some ⟨g4, 0, none⟩) (NB + 1) cap4) (B ++ [b]) (.slice av6 T1.b.length cv6) T1.b ∧ Kept own w ((W7.drew.setCell ⟨g, 2, none⟩ (.bool true)).setCells g 3 #[.string T1.m, .string T1.t, .string T1.k, .slice av6 T1.b.length cv6].toList)) := ⟨hQ8.done HBY6.out ⟨HO7.out.1, HO7.out.2⟩ HX7.out, (HK7.out.drew.setCell (.inl HQ.out.og) 2 _).setCells (.inl HQ.out.og) _ 3⟩
          have HS9 : Bx (w6.heap.size ≤ ((W7.drew.setCell ⟨g, 2, none⟩ (.bool true)).setCells g 3 #[.string T1.m, .string T1.t, .string T1.k, .slice av6 T1.b.length cv6].toList).heap.size) := ⟨by rw [setCells_size]; have := HS7.out; simpa [World.setCell] using this⟩
          have HTH : Bx ((W7.drew.setCell ⟨g, 2, none⟩ (.bool true)).there g 3 4) := ⟨there_mid (hQ8.set 2 (.bool true)).row 3 4 (by show 7 ≤ 7; decide)⟩
          have HV2 : Bx ((W7.drew.setCell ⟨g, 2, none⟩ (.bool true)).heap[w6.heap.size]? = some (.cells #[.string T1.m, .string T1.t, .string T1.k, .slice av6 T1.b.length cv6] 26 (0, 0))) := ⟨(setCells_other (vs := [.bool true]) (o := 2) (Ne.symm hNg)).trans HV7.out⟩
          have HV3 : Bx (((W7.drew.setCell ⟨g, 2, none⟩ (.bool true)).setCells g 3 #[.string T1.m, .string T1.t, .string T1.k, .slice av6 T1.b.length cv6].toList).heap[w6.heap.size]? = some (.cells #[.string T1.m, .string T1.t, .string T1.k, .slice av6 T1.b.length cv6] 26 (0, 0))) := ⟨(setCells_other (Ne.symm hNg) _ _).trans HV2.out⟩
          have hk : W7.drew.heap[w6.heap.size]? = some (.cells #[.string T1.m, .string T1.t, .string T1.k, .slice av6 T1.b.length cv6] 26 (0, 0)) := HV7.out
          clear hQ8 hq hE hE0 hd HP1 HP2 HP3 HP4
          go_upto_region 6 with (rw [HW7.out])
          generalize T1.b.length = N6 at *
          clear HW7
          generalize w6.heap.size = V at *
          refine wp_region_held_drew (S := fun W => W.heap[V]? = some (.cells #[.string T1.m, .string T1.t, .string T1.k, .slice av6 N6 cv6] 26 (0, 0))) (by kernel_rfl) hk (fun _ => ?_)
          generalize W7.drew = wk at *
          refine wpAnyH_take (i := 0) (oi := { dst := some 40, op := Op.move (Operand.tmp 0), type := 39, pos := "ref.go:193", after := #[], guard := none }) (v := ?vrpu61) rfl (by kernel_rfl) (by kernel_rfl) (by kernel_rfl) (fun _ _ _ h => h) (Or.inl ⟨by rfl, ?yrpu61⟩) hk ?rrpu61
          case yrpu61 => (intro w hSw; (try dsimp only at hSw); go_simp; first | done | with_reducible rfl)
          simp only [Act.put, List.setIfInBounds_toArray, List.set_cons_zero, List.set_cons_succ]
          refine wpAnyH_take (i := 1) (oi := { dst := some 41, op := Op.move (Operand.tmp 0), type := 39, pos := "ref.go:193", after := #[{ on := 5, ground := Ground.gcOnly Departure.lateStores }], guard := none }) (v := ?vrpu62) rfl (by kernel_rfl) (by kernel_rfl) (by kernel_rfl) (fun _ _ _ h => h) (Or.inl ⟨by rfl, ?yrpu62⟩) hk ?rrpu62
          case yrpu62 => (intro w hSw; (try dsimp only at hSw); go_simp; first | done | with_reducible rfl)
          simp only [Act.put, List.setIfInBounds_toArray, List.set_cons_zero, List.set_cons_succ]
          refine wpAnyH_take (i := 2) (oi := { dst := some 42, op := Op.load 26 (Operand.tmp 6), type := 26, pos := "ref.go:193", after := #[{ on := 5, ground := Ground.gcOnly Departure.lateStores }], guard := none }) (v := .agg ([.string T1.m, .string T1.t, .string T1.k, .slice av6 N6 cv6]).toArray) rfl (by kernel_rfl) (by kernel_rfl) (by kernel_rfl) (fun _ _ _ h => h) (yieldsIf_load_mid (by rfl) 26 (.tmp 6) rfl V 0 rfl ([.string T1.m, .string T1.t, .string T1.k, .slice av6 N6 cv6]) _ (fun W h => World.rangeAt_of_block h 0 4) Tryz.underlying26 rfl req_info) hk ?_
          simp only [Act.put, List.setIfInBounds_toArray, List.set_cons_zero, List.set_cons_succ]
          refine wpAnyH_take (i := 3) (oi := { dst := some 43, op := Op.nilCheck (Operand.tmp 40), type := 0, pos := "ref.go:193", after := #[{ on := 0, ground := Ground.data }, { on := 0, ground := Ground.phase }, { on := 1, ground := Ground.textOnly Departure.lateStores }, { on := 2, ground := Ground.textOnly Departure.lateStores }], guard := none }) (v := ?vrpu63) rfl (by kernel_rfl) (by kernel_rfl) (by kernel_rfl) (fun _ _ _ h => h) (Or.inl ⟨by rfl, ?yrpu63⟩) hk ?rrpu63
          case yrpu63 => (intro w hSw; (try dsimp only at hSw); go_simp; first | done | with_reducible rfl)
          simp only [Act.put, List.setIfInBounds_toArray, List.set_cons_zero, List.set_cons_succ]
          refine wpAnyH_take (i := 4) (oi := { dst := some 44, op := Op.fieldAddr 41 (Operand.tmp 43) 2, type := 0, pos := "ref.go:193", after := #[{ on := 3, ground := Ground.data }, { on := 0, ground := Ground.phase }, { on := 1, ground := Ground.textOnly Departure.lateStores }, { on := 2, ground := Ground.textOnly Departure.lateStores }], guard := none }) (v := ?vrpu64) rfl (by kernel_rfl) (by kernel_rfl) (by kernel_rfl) (fun _ _ _ h => h) (Or.inl ⟨by rfl, ?yrpu64⟩) hk ?rrpu64
          case yrpu64 => (intro w hSw; (try dsimp only at hSw); go_simp; first | done | with_reducible rfl)
          simp only [Act.put, List.setIfInBounds_toArray, List.set_cons_zero, List.set_cons_succ]
          refine wpAnyH_ready (rs := [5]) (by decide +kernel) (by simp) ?_
          refine AllReadyH.cons (o := { dst := none, op := Op.store 4 (Operand.tmp 44) (Operand.const (Value.bool true)), type := 0, pos := "ref.go:193", after := #[{ on := 4, ground := Ground.data }, { on := 0, ground := Ground.phase }, { on := 1, ground := Ground.textOnly Departure.lateStores }, { on := 2, ground := Ground.textOnly Departure.lateStores }], guard := none }) rfl (fun K hK => ?_) AllReadyH.nil
          go_simp
          replace hk := HV2.out
          clear k2 f2
          refine hK.out _ _ hk (fun _ => ?_)
          clear hK K
          try simp only [Act.put, List.setIfInBounds_toArray, List.set_cons_zero, List.set_cons_succ]
          refine wpAnyH_take (i := 6) (oi := { dst := some 45, op := Op.nilCheck (Operand.tmp 41), type := 0, pos := "ref.go:193", after := #[{ on := 1, ground := Ground.data }, { on := 0, ground := Ground.phase }, { on := 1, ground := Ground.phase }, { on := 2, ground := Ground.phase }, { on := 3, ground := Ground.phase }, { on := 4, ground := Ground.phase }, { on := 5, ground := Ground.phase }], guard := none }) (v := ?vrpu65) rfl (by kernel_rfl) (by kernel_rfl) (by kernel_rfl) (fun _ _ _ h => h) (Or.inl ⟨by rfl, ?yrpu65⟩) hk ?rrpu65
          case yrpu65 => (intro w hSw; (try dsimp only at hSw); go_simp; first | done | with_reducible rfl)
          simp only [Act.put, List.setIfInBounds_toArray, List.set_cons_zero, List.set_cons_succ]
          refine wpAnyH_take (i := 7) (oi := { dst := some 46, op := Op.fieldAddr 41 (Operand.tmp 45) 3, type := 0, pos := "ref.go:193", after := #[{ on := 6, ground := Ground.data }, { on := 0, ground := Ground.phase }, { on := 1, ground := Ground.phase }, { on := 2, ground := Ground.phase }, { on := 3, ground := Ground.phase }, { on := 4, ground := Ground.phase }, { on := 5, ground := Ground.phase }], guard := none }) (v := ?vrpu66) rfl (by kernel_rfl) (by kernel_rfl) (by kernel_rfl) (fun _ _ _ h => h) (Or.inl ⟨by rfl, ?yrpu66⟩) hk ?rrpu66
          case yrpu66 => (intro w hSw; (try dsimp only at hSw); go_simp; first | done | with_reducible rfl)
          simp only [Act.put, List.setIfInBounds_toArray, List.set_cons_zero, List.set_cons_succ]
          refine wpAnyH_ready (rs := [8]) (by decide +kernel) (by simp) ?_
          refine AllReadyH.cons (o := { dst := none, op := Op.store 26 (Operand.tmp 46) (Operand.tmp 42), type := 0, pos := "ref.go:193", after := #[{ on := 7, ground := Ground.data }, { on := 2, ground := Ground.data }, { on := 5, ground := Ground.chain }, { on := 0, ground := Ground.phase }, { on := 1, ground := Ground.phase }, { on := 2, ground := Ground.phase }, { on := 3, ground := Ground.phase }, { on := 4, ground := Ground.phase }, { on := 5, ground := Ground.phase }], guard := none }) rfl (fun K hK => ?_) AllReadyH.nil
          rw [if_pos (by rfl)]
          refine wp_store_mid 26 (.tmp 46) (.tmp 42) rfl g 3 #[.string T1.m, .string T1.t, .string T1.k, .slice av6 N6 cv6] rfl rfl ?htrpu67 req_info HONE.out ?_
          case htrpu67 => exact HTH.out
          replace hk := HV3.out
          simp only [Act.put]
          refine hK.out _ _ hk (fun _ => ?_)
          clear hK K
          try simp only [Act.put, List.setIfInBounds_toArray, List.set_cons_zero, List.set_cons_succ]
          refine wpAnyH_done (by decide +kernel) ?_ _
          go_wp2
          go_ret2
          exact ⟨by rw [HE0.out, HDD.out]; rfl, _, ⟨B ++ [b], false, true, T1, _, _, HFIN.out.1, HQI.out, HL2.out, fun h => (by cases h)⟩, HFIN.out.2, fun k hk => by rcases hk with h1 | h1; exact .inl h1; exact .inr ⟨h1.1, Nat.lt_of_lt_of_le h1.2 HS9.out⟩⟩
        | false =>
          have hq := HP4.out hE0 hd
          have HQI := Bx.mk hq
          have HE6 : E6 = 3 := by rw [HP1.out, if_neg hE, if_neg (by rw [hd]; decide)]
          have HE0 := Bx.mk hE0
          have HDD := Bx.mk hd
          subst HE6
          clear hq hE hE0 hd HP1 HP2 HP3 HP4
          go_wp2_with (rw [HW7.out])
          go_ret2
          exact ⟨by rw [HE0.out, HDD.out]; rfl, _, ⟨B ++ [b], false, false, wx0, _, _, HQ7.out, HQI.out, HL2.out, fun _ => ⟨rfl, rfl⟩⟩, HK7.out, fun k hk => by rcases hk with h1 | h1; exact .inl h1; exact .inr ⟨h1.1, Nat.lt_of_lt_of_le h1.2 HS7.out⟩⟩
end Go.Proofs.YtdameoejigpnhaaGreatDoor
namespace Go.Proofs.YtdameoejigpnhaaGreatDoor
open Go.RowKit
set_option linter.unusedVariables false

set_option maxRecDepth 100000 in
set_option maxHeartbeats 2000000 in
theorem rtake_any (g : Nat) (own : Nat → Prop) (r : WR) (N : Nat) (w : World) (h : Xq w g own r N) :
    Calls Tryz.prog 21 #[.pointer (some ⟨g, 0, none⟩)] w fun e w' => ∃ v, e = .returned (.tuple #[reqV (tkX r) v, .bool (tkB r)]) ∧ Xq w' g own (tkS r) N ∧ Byt (tkX r).b ∧ w'.ownsRow 0 5 1 v (tkX r).b.length (bv (tkX r).b) ∧ Did own w w' own := by
  obtain ⟨B, bad, done, X, v, vx, hQ, hI, hBN, hZ⟩ := h
  obtain ⟨t1, t2, t3⟩ := hI.take
  have hb0 : Below w.heap.size w (w.alloc (.cells reqZ 26)) := (Below.refl _ _).alloc (Nat.le_refl _) _
  have HB0 := Bx.mk hb0
  have HROW : Bx ((w.alloc (.cells reqZ 26)).heap[w.heap.size]? = some (.cells reqZ 26 (0, 0))) := ⟨heap_alloc_new w _⟩
  have HSZ : Bx ((w.alloc (.cells reqZ 26)).heap.size = w.heap.size + 1) := ⟨by simp⟩
  have HQ1 := Bx.mk (hQ.below hb0)
  have HQ0 := Bx.mk hQ
  have k2 : (w.alloc (.cells reqZ 26)).cell? ⟨g, 2, none⟩ = some (.bool done) := HQ1.out.cell 2
  have HI := Bx.mk hI
  have hgl := hQ.lt g hQ.og
  clear hb0 hQ hI
  generalize hw1 : w.alloc (.cells reqZ 26) = W1 at *
  unfold reqZ at hw1
  cases done with
  | false =>
    have HX := Bx.mk (t3 rfl)
    have HT1 := Bx.mk t1
    have HZ := Bx.mk hZ
    obtain ⟨q1, q2, q3⟩ := ans_put HROW.out HB0.out reqZ rfl
    have HQ2 := Bx.mk q1
    have HQ3 := Bx.mk q2
    have HQ4 := Bx.mk q3
    clear t1 t2 t3 hZ q1 q2 q3
    go_enter Tryz.func21, Tryz.ntmps21
    go_wp2_with (refine wpList_store_mid rfl 26 (.tmp 2) (.tmp 10) rfl w.heap.size 0 reqZ rfl rfl HQ2.out req_info (by simp [Value.oneCell', reqZ]) ?_)
    refine bodyPost_ret (v := .tuple #[.agg reqZ, .bool false]) (results_rt rfl _ _ w.heap.size reqZ _ rfl rfl HQ3.out req_info) rfl ⟨.slice none 0 0, ?_⟩
    rw [HX.out.1, HX.out.2, HT1.out]
    exact ⟨rfl, ⟨B, bad, false, X, v, vx, HQ0.out.below HQ4.out, HI.out, hBN, fun _ => HZ.out trivial⟩, Byt.nil, World.ownsRow_nil _ _ _ _, Did.same (Kept.of_below HQ4.out)⟩
  | true =>
    obtain ⟨-, -, rfl⟩ := HI.out.dn rfl
    have HX := Bx.mk (t2 rfl)
    have HT1 := Bx.mk t1
    obtain ⟨av, cv, rfl⟩ := own_sl HQ1.out.xr
    have HR : Bx (W1.rangeAt g 3 [.string X.m, .string X.t, .string X.k, .slice av X.b.length cv]) := ⟨World.rangeAt_of_block HQ1.out.row 3 4⟩
    have hal : Below W1.heap.size W1 (W1.alloc (.cells #[.string X.m, .string X.t, .string X.k, .slice av X.b.length cv] 26)) := (Below.refl _ _).alloc (Nat.le_refl _) _
    have hQ2 := HQ1.out.below hal
    have hV2 : (W1.alloc (.cells #[.string X.m, .string X.t, .string X.k, .slice av X.b.length cv] 26)).heap[W1.heap.size]? = some (.cells #[.string X.m, .string X.t, .string X.k, .slice av X.b.length cv] 26 (0, 0)) := heap_alloc_new W1 _
    have hR2 : (W1.alloc (.cells #[.string X.m, .string X.t, .string X.k, .slice av X.b.length cv] 26)).heap[w.heap.size]? = some (.cells reqZ 26 (0, 0)) := by rw [hal.block _ (by rw [HSZ.out]; omega)]; exact HROW.out
    have hK2 : Kept own w (W1.alloc (.cells #[.string X.m, .string X.t, .string X.k, .slice av X.b.length cv] 26)) := Kept.of_below (bstep HB0.out hal)
    have hsz := HSZ.out
    clear hal t1 t2 t3 hZ
    obtain ⟨W2, hW2⟩ : ∃ W2, W1.alloc (.cells #[.string X.m, .string X.t, .string X.k, .slice av X.b.length cv] 26) = W2 := ⟨_, rfl⟩
    rw [hW2] at hQ2 hV2 hR2 hK2
    have HW2 := Bx.mk hW2
    have d0 : W2.cell? ⟨g, 0, none⟩ = some v := hQ2.cell 0
    have d2 : W2.cell? ⟨g, 2, none⟩ = some (.bool true) := hQ2.cell 2
    have f0 : W2.frozen? ⟨g, 0, none⟩ = false := hQ2.fr 0
    have f2 : W2.frozen? ⟨g, 2, none⟩ = false := hQ2.fr 2
    have HTH : Bx (((W2.setCell ⟨g, 0, none⟩ (.slice none 0 0)).setCell ⟨g, 2, none⟩ (.bool false)).there g 3 4) := ⟨there_mid ((hQ2.set 0 (.slice none 0 0)).set 2 (.bool false)).row 3 4 (by show 7 ≤ 7; decide)⟩
    have HG := Bx.mk hQ2.gone
    have hne1 : W1.heap.size ≠ g := by omega
    have hne2 : w.heap.size ≠ g := by omega
    have HV3 : Bx ((((W2.setCell ⟨g, 0, none⟩ (.slice none 0 0)).setCell ⟨g, 2, none⟩ (.bool false)).setCells g 3 reqZ.toList).heap[W1.heap.size]? = some (.cells #[.string X.m, .string X.t, .string X.k, .slice av X.b.length cv] 26 (0, 0))) := ⟨(setCells_other hne1 _ _).trans ((setCells_other (vs := [.bool false]) (o := 2) hne1).trans ((setCells_other (vs := [.slice none 0 0]) (o := 0) hne1).trans hV2))⟩
    have hR3 : (((W2.setCell ⟨g, 0, none⟩ (.slice none 0 0)).setCell ⟨g, 2, none⟩ (.bool false)).setCells g 3 reqZ.toList).heap[w.heap.size]? = some (.cells reqZ 26 (0, 0)) := (setCells_other hne2 _ _).trans ((setCells_other (vs := [.bool false]) (o := 2) hne2).trans ((setCells_other (vs := [.slice none 0 0]) (o := 0) hne2).trans hR2))
    have hK3 : Kept own w (((W2.setCell ⟨g, 0, none⟩ (.slice none 0 0)).setCell ⟨g, 2, none⟩ (.bool false)).setCells g 3 reqZ.toList) := (((hK2.setCell (.inl HQ0.out.og) 0 _).setCell (.inl HQ0.out.og) 2 _).setCells (.inl HQ0.out.og) _ 3)
    have hO3 : (((W2.setCell ⟨g, 0, none⟩ (.slice none 0 0)).setCell ⟨g, 2, none⟩ (.bool false)).setCells g 3 reqZ.toList).ownsRow 0 5 1 (.slice av X.b.length cv) X.b.length (bv X.b) := owns_setCells (owns_setCells (vs := [.bool false]) (o := 2) (owns_setCells (vs := [.slice none 0 0]) (o := 0) hQ2.xr (fun k hk => own_ne hQ2.row hQ2.xr hk)) (fun k hk => own_ne hQ2.row hQ2.xr hk)) (fun k hk => own_ne hQ2.row hQ2.xr hk)
    have hT0 : ∀ k, (Value.slice av X.b.length cv).ownBlock = some k → k ≠ w.heap.size := fun k hk => by have := HQ0.out.lt k (HQ0.out.ox k hk); omega
    have HONE := Bx.mk (req_one X.m X.t X.k (.slice av X.b.length cv) rfl)
    have HXB := Bx.mk HQ1.out.xbyt
    have HOG := Bx.mk HQ0.out.og
    have HLT := Bx.mk HQ0.out.lt
    clear hQ2 hV2 hR2 hK2 hW2 HQ1 HQ0 HROW HB0
    generalize hW3 : ((W2.setCell ⟨g, 0, none⟩ (.slice none 0 0)).setCell ⟨g, 2, none⟩ (.bool false)).setCells g 3 reqZ.toList = W3 at *
    have HW3 := Bx.mk hW3
    clear hW3
    have HTR : Bx (W3.there w.heap.size 0 4) := ⟨there_row hR3⟩
    have HST : Bx ((W3.setCells w.heap.size 0 #[.string X.m, .string X.t, .string X.k, .slice av X.b.length cv].toList).heap[w.heap.size]? = some (.cells #[.string X.m, .string X.t, .string X.k, .slice av X.b.length cv] 26 (0, 0))) := ⟨heap_stored hR3 rfl⟩
    have HKF : Bx (Kept own w (W3.setCells w.heap.size 0 #[.string X.m, .string X.t, .string X.k, .slice av X.b.length cv].toList)) := ⟨hK3.setCells (.inr (Nat.le_refl _)) _ 0⟩
    have HOF : Bx ((W3.setCells w.heap.size 0 #[.string X.m, .string X.t, .string X.k, .slice av X.b.length cv].toList).ownsRow 0 5 1 (.slice av X.b.length cv) X.b.length (bv X.b)) := ⟨owns_setCells hO3 hT0⟩
    have HGF : Bx (Qk (W3.setCells w.heap.size 0 #[.string X.m, .string X.t, .string X.k, .slice av X.b.length cv].toList) g own (rowQ (.slice none 0 0) false false wx0 (.slice none 0 0)) (.slice none 0 0) [] (.slice none 0 0) []) := ⟨HG.out.keep (fun k hk => setCells_other (by have := HLT.out k hk; omega) _ _) (by rw [setCells_size]; exact Nat.le_refl _)⟩
    clear hR3 hK3 hO3 hT0 HG hsz hne1 hne2
    go_enter Tryz.func21, Tryz.ntmps21
    go_wp2_with (first
      | (refine wpList_load_mid rfl 26 (.tmp 13) rfl g 3 rfl [.string X.m, .string X.t, .string X.k, .slice av X.b.length cv] _ HR.out Tryz.underlying26 rfl req_info ?_)
      | (rw [HW2.out]; have HTH2 := HTH; have HW3B := HW3; clear HW2)
      | (refine wpList_store_mid rfl 26 (.tmp 24) (.tmp 18) rfl g 3 reqZ rfl rfl HTH2.out req_info (by simp [Value.oneCell', reqZ]) ?_; rw [HW3B.out]; have HV3B := HV3; have HTRB := HTR)
      | (refine wpList_load_row rfl 26 (.tmp 4) rfl W1.heap.size rfl 26 #[.string X.m, .string X.t, .string X.k, .slice av X.b.length cv] (0, 0) _ HV3B.out Tryz.underlying26 rfl req_info ?_)
      | (refine wpList_store_mid rfl 26 (.tmp 2) (.tmp 25) rfl w.heap.size 0 #[.string X.m, .string X.t, .string X.k, .slice av X.b.length cv] rfl rfl HTRB.out req_info HONE.out ?_))
    refine bodyPost_ret (v := .tuple #[.agg #[.string X.m, .string X.t, .string X.k, .slice av X.b.length cv], .bool true]) (results_rt rfl _ _ w.heap.size _ _ rfl rfl HST.out req_info) rfl ⟨.slice av X.b.length cv, ?_⟩
    rw [HX.out.1, HX.out.2, HT1.out]
    exact ⟨rfl, ⟨[], false, false, wx0, _, _, HGF.out, QI.new wp0, Nat.zero_le _, fun _ => ⟨rfl, rfl⟩⟩, HXB.out, HOF.out, Did.same HKF.out⟩
end Go.Proofs.YtdameoejigpnhaaGreatDoor
namespace Go.Proofs.YtdameoejigpnhaaGreatDoor
open Go.ChangeShapes Go.WideShapes Go.ChangeAt Go.RowKit

structure TwoW (w wr : World) (g h : Nat) (own1 own2 : Nat → Prop) (r : WR) (N : Nat) : Prop where
  rd : Wat wr g own1 r
  xd : Xq wr h own2 r N
  dj : ∀ k, own1 k → ¬ own2 k
  lo : ∀ k, own1 k ∨ own2 k → w.heap.size ≤ k
  bel : Below w.heap.size w wr
variable {w wr w1 w2 : World} {g h : Nat} {own1 own2 o1 o2 : Nat → Prop} {r r2 : WR} {N N2 : Nat}
set_option maxRecDepth 100000 in
theorem wat_kept {own own2 : Nat → Prop} {w w' : World} {g : Nat} {r : WR} (h : Wat w g own r) (hb : Kept own2 w w') (hd : ∀ k, own k → ¬ own2 k) : Wat w' g own r := wat_keep (fun k hk => hb.block k ((wat_own h).2 k hk) (hd k hk)) hb.size h
set_option maxRecDepth 100000 in
theorem TwoW.below (t : TwoW w wr g h own1 own2 r N) (hb : Below wr.heap.size wr w1) : TwoW w w1 g h own1 own2 r N :=
  ⟨wat_below t.rd hb, t.xd.below hb, t.dj, t.lo, bstep t.bel hb⟩
set_option maxRecDepth 100000 in
theorem TwoW.left (t : TwoW w wr g h own1 own2 r N) (hd : Did own1 wr w1 o1) : Xq w1 h own2 r N := t.xd.kept hd.kept (fun k h2 h1 => t.dj k h1 h2)
set_option maxRecDepth 100000 in
theorem TwoW.both (t : TwoW w wr g h own1 own2 r N) (hd : Did own1 wr w1 o1) (hr : Wat w1 g o1 r2) (hd2 : Did own2 w1 w2 o2) (hx : Xq w2 h o2 r2 N2) : TwoW w w2 g h o1 o2 r2 N2 := by
  have hs1 := hd.kept.size
  have hn : ∀ k, o1 k → ¬ own2 k := fun k h1 h2 => by
    rcases hd.new k h1 with h3 | h3
    · exact t.dj k h3 h2
    · have := t.xd.lt k h2; omega
  have hlo1 : ∀ k, o1 k → w.heap.size ≤ k := fun k h1 => by
    rcases hd.new k h1 with h3 | h3
    · exact t.lo k (.inl h3)
    · have := t.bel.size; omega
  refine ⟨wat_kept hr hd2.kept hn, hx, fun k h1 h2 => ?_, fun k hk => ?_, ?_⟩
  · rcases hd2.new k h2 with h3 | h3
    · exact hn k h1 h3
    · have := (wat_own hr).2 k h1; omega
  · rcases hk with hk | hk
    · exact hlo1 k hk
    · rcases hd2.new k hk with h3 | h3
      · exact t.lo k (.inr h3)
      · have := t.bel.size; omega
  · exact (t.bel.trans (hd.kept.low (fun k hk => t.lo k (.inl hk)) t.bel.size)).trans (hd2.kept.low (fun k hk => t.lo k (.inr hk)) (Nat.le_trans t.bel.size hs1))
/-- truth values in memory -/
structure Bls (w : World) (ao : Option Addr) (len cap : Nat) (K : List Bool) : Prop where
  len_eq : K.length = len
  le_cap : len ≤ cap
  cap_le : cap ≤ maxLen
  spot : 0 < len → ∃ b off, ao = some ⟨b, off, none⟩ ∧ b < w.heap.size ∧ ∀ i, i < len → w.cell? ⟨b, off + i, none⟩ = some (.bool (K.getD i false))
set_option maxRecDepth 100000 in
theorem Bls.below {w w' : World} {ao : Option Addr} {len cap : Nat} {K : List Bool} (h : Bls w ao len cap K) (hb : Below w.heap.size w w') : Bls w' ao len cap K :=
  ⟨h.len_eq, h.le_cap, h.cap_le, fun hp => by
    obtain ⟨b, off, e, hlt, hc⟩ := h.spot hp
    exact ⟨b, off, e, Nat.lt_of_lt_of_le hlt hb.size, fun i hi => (hb.cell hlt).trans (hc i hi)⟩⟩
set_option maxRecDepth 100000 in
theorem bls_nil (w : World) (ao : Option Addr) : Bls w ao 0 0 [] := ⟨rfl, Nat.le_refl _, Nat.zero_le _, fun hp => absurd hp (Nat.lt_irrefl _)⟩
section
variable {H : Type} {enc : TypeId × Value → H} {W : World} {held : Bool} {bs : Nat}
set_option maxRecDepth 100000 in
theorem bls_of {a : Addr} {len cap : Nat} {B : Nat → Bool} (hl : len ≤ cap) (hm : cap ≤ maxLen) (hc : ∀ i, i < cap → W.cell? (a.add i) = some (.bool (B i))) : Bls W (some a) len cap ((List.range len).map B) := by
  refine ⟨by simp, hl, hm, fun hp => ?_⟩
  obtain ⟨b, off, sp⟩ := a
  have h0 := hc 0 (by omega)
  have hsp : sp = none := by simpa [Addr.add] using World.cell?_spot h0
  subst hsp
  refine ⟨b, off, rfl, by have := World.block_lt_of_cell? W _ h0; simpa [Addr.add] using this, fun i hi => ?_⟩
  have h1 := hc i (by omega)
  rw [Addr.add_lit] at h1
  rw [h1, List.getD_eq_getElem?_getD, List.getElem?_map, List.getElem?_range hi]; rfl
set_option maxRecDepth 100000 in
theorem open_bls {a : Option Addr} {len cap : Nat} {d : DataW H} {p : List MemPlace} (h : DataW.Trod enc Tryz.prog W bs (fun _ => true) held 36 (.slice a len cap) d p) : ∃ K, Bls W a len cap K := by
  obtain ⟨fuel, hf⟩ := h
  have hf' : DataW.trod enc Tryz.prog W bs (fun _ => true) held fuel 36 [.slice a len cap] = some (d, p) := by simpa [Value.cells] using hf
  rcases Deep.open_bools Tryz.underlying36 Tryz.underlying4 (by kernel_rfl) hf' with ⟨hcs, _⟩ | ⟨a', len', cap', B, hcs, _, hl, hm, _, hcell⟩
  · have e : Value.slice a len cap = .slice none 0 0 := by simpa using hcs
    cases e
    exact ⟨[], bls_nil _ _⟩
  · have e : Value.slice a len cap = .slice (some a') len' cap' := by simpa using hcs
    cases e
    exact ⟨_, bls_of hl hm hcell⟩
end
end Go.Proofs.YtdameoejigpnhaaGreatDoor
