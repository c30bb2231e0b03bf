/- Heads in memory. No walk. A ledger in memory. No walk. The program's ledger: is it made, how many. -/
import Derived.Test.YtbednfacipphhaaDoorAuau
import Derived.Test.YtbednfacipphhaaDoorAuam
import Derived.Test.YtbednfacipphhaaDoorEqSelf
import Derived.Deep.MidRow
import Derived.BigQuiet
namespace Go.Proofs.YtbednfacipphhaaDoor
open Go.RowKit
set_option linter.unusedVariables false

/-- a head's cells -/
def hdC (h : Hd) : List Value := .int .i64 h.n :: (bv h.R ++ (bv h.C ++ bv h.G))
def hdA (h : Hd) : Array Value := (hdC h).toArray
structure HdD (h : Hd) : Prop where
  R : Dg h.R
  C : Dg h.C
  G : Dg h.G
set_option maxRecDepth 100000 in
theorem hd0_dg : HdD hd0 := ⟨dz_dg, dz_dg, dz_dg⟩
set_option maxRecDepth 100000 in
theorem sgn_dg {k : List Int} {h : Hd} (hR : Dg h.R) (hC : Dg h.C) : HdD (sgn k h) := ⟨hR, hC, ⟨macL_len _ _, macL_byt _ _⟩⟩
set_option maxRecDepth 100000 in
theorem hdOf_dg (k : List Int) (T : List (List Int)) : HdD (hdOf k T) := sgn_dg (rootL_dg _ _ (leavesL_dg _ _)) (chnT_dg _)
section
variable {h : Hd} {w w' : World} {g : Nat}
set_option maxRecDepth 100000 in
theorem hdC_len (hd : HdD h) : (hdC h).length = 97 := by
  unfold hdC
  simp only [List.length_cons, List.length_append, bv_length, hd.R.1, hd.C.1, hd.G.1]
set_option maxRecDepth 100000 in
theorem hdA_size (hd : HdD h) : (hdA h).size = 97 := by unfold hdA; rw [List.size_toArray, hdC_len hd]
set_option maxRecDepth 100000 in
theorem hdC_one : ∀ u ∈ hdC h, u.oneCell' = true := fun u hu => by
  unfold hdC at hu
  simp only [List.mem_cons, List.mem_append] at hu
  rcases hu with rfl | hu | hu | hu
  · rfl
  · exact bv_one _ u hu
  · exact bv_one _ u hu
  · exact bv_one _ u hu
set_option maxRecDepth 100000 in
theorem hdA_one : (hdA h).all (·.oneCell') = true := all_oneCell_toArray hdC_one
set_option maxRecDepth 100000 in
theorem hd_info : (Tryd.prog.info? 47).map (·.size) = some 97 := by kernel_rfl
set_option maxRecDepth 100000 in
theorem hdA_info (hd : HdD h) : (Tryd.prog.info? 47).map (·.size) = some (hdA h).size := by rw [hdA_size hd]; exact hd_info
set_option maxRecDepth 100000 in
theorem hdC_info (hd : HdD h) : (Tryd.prog.info? 47).map (·.size) = some (hdC h).length := by rw [hdC_len hd]; exact hd_info
set_option maxRecDepth 100000 in
theorem dgH_info : (Tryd.prog.info? 30).map (·.size) = some 32 := by kernel_rfl
set_option maxRecDepth 100000 in
/-- cell by cell -/
theorem hdC_at (hd : HdD h) (i : Nat) : (hdC h)[i]? = if i = 0 then some (.int .i64 h.n) else if i < 33 then (bv h.R)[i - 1]? else if i < 65 then (bv h.C)[i - 33]? else (bv h.G)[i - 65]? := by
  have hR : (bv h.R).length = 32 := by rw [bv_length, hd.R.1]
  have hC : (bv h.C).length = 32 := by rw [bv_length, hd.C.1]
  unfold hdC
  by_cases i0 : i = 0
  · subst i0; rfl
  rw [if_neg i0, show i = i - 1 + 1 from by omega, List.getElem?_cons_succ, show i - 1 + 1 = i from by omega]
  by_cases i2 : i < 33
  · rw [if_pos i2, List.getElem?_append_left (by omega)]
  rw [if_neg i2, List.getElem?_append_right (by omega), hR, show i - 1 - 32 = i - 33 from by omega]
  by_cases i3 : i < 65
  · rw [if_pos i3, List.getElem?_append_left (by omega)]
  rw [if_neg i3, List.getElem?_append_right (by omega), hC, show i - 33 - 32 = i - 65 from by omega]
/-- a head in a variable -/
structure HdB (w : World) (g : Nat) (h : Hd) : Prop where
  row : w.heap[g]? = some (.cells (hdA h) 47 (0, 0))
  dig : HdD h
set_option maxRecDepth 100000 in
theorem HdB.lt (k : HdB w g h) : g < w.heap.size := (Array.getElem?_eq_some_iff.1 k.row).1
set_option maxRecDepth 100000 in
theorem HdB.keep (k : HdB w g h) (hb : w'.heap[g]? = w.heap[g]?) : HdB w' g h := ⟨hb.trans k.row, k.dig⟩
set_option maxRecDepth 100000 in
theorem HdB.below (k : HdB w g h) (hb : Below w.heap.size w w') : HdB w' g h := k.keep (hb.block g k.lt)
set_option maxRecDepth 100000 in
theorem HdB.new (w : World) (hd : HdD h) : HdB (w.alloc (.cells (hdA h) 47)) w.heap.size h := ⟨heap_alloc_new _ _, hd⟩
set_option maxRecDepth 100000 in
theorem HdB.cell (k : HdB w g h) (i : Nat) {v : Value} (hv : (hdC h)[i]? = some v) : w.cell? ⟨g, i, none⟩ = some v := by
  rw [cell_of_row _ g i _ _ (0, 0) k.row]; unfold hdA; rw [List.getElem?_toArray]; exact hv
set_option maxRecDepth 100000 in
theorem HdB.c0 (k : HdB w g h) : w.cell? ⟨g, 0, none⟩ = some (.int .i64 h.n) := k.cell 0 rfl
set_option maxRecDepth 100000 in
theorem HdB.fr (k : HdB w g h) (i : Nat) : w.frozen? ⟨g, i, none⟩ = false := frozen_of_row _ g i _ _ k.row
set_option maxRecDepth 100000 in
theorem HdB.rR (k : HdB w g h) : w.rangeAt g 1 (bv h.R) := fun j v hj => by
  have hl : j < 32 := by have := (List.getElem?_eq_some_iff.1 hj).1; rwa [bv_length, k.dig.R.1] at this
  rw [k.cell (1 + j) (v := v) (by rw [hdC_at k.dig, if_neg (by omega), if_pos (by omega), show 1 + j - 1 = j from by omega]; exact hj)]
set_option maxRecDepth 100000 in
theorem HdB.rC (k : HdB w g h) : w.rangeAt g 33 (bv h.C) := fun j v hj => by
  have hl : j < 32 := by have := (List.getElem?_eq_some_iff.1 hj).1; rwa [bv_length, k.dig.C.1] at this
  rw [k.cell (33 + j) (v := v) (by rw [hdC_at k.dig, if_neg (by omega), if_neg (by omega), if_pos (by omega), show 33 + j - 33 = j from by omega]; exact hj)]
set_option maxRecDepth 100000 in
theorem HdB.rG (k : HdB w g h) : w.rangeAt g 65 (bv h.G) := fun j v hj => by
  have hl : j < 32 := by have := (List.getElem?_eq_some_iff.1 hj).1; rwa [bv_length, k.dig.G.1] at this
  rw [k.cell (65 + j) (v := v) (by rw [hdC_at k.dig, if_neg (by omega), if_neg (by omega), if_neg (by omega), show 65 + j - 65 = j from by omega]; exact hj)]
set_option maxRecDepth 100000 in
theorem range_bts {l : List Int} {o : Nat} (hd : Dg l) (hg : g < w.heap.size) (hr : w.rangeAt g o (bv l)) : Bts w (some ⟨g, o, none⟩) 32 32 l :=
  ⟨hd.1, hd.2, Nat.le_refl _, by unfold maxLen; omega, (fun hh => by cases hh), fun _ => ⟨g, o, rfl, hg, fun i hi => by
    have := hr i (.int .u8 (l.getD i 0)) (by rw [bv, List.getElem?_map, List.getElem?_eq_getElem (by rw [hd.1]; exact hi), List.getD_eq_getElem?_getD, List.getElem?_eq_getElem (by rw [hd.1]; exact hi)]; rfl)
    exact this⟩⟩
set_option maxRecDepth 100000 in
theorem HdB.bR (k : HdB w g h) : Bts w (some ⟨g, 1, none⟩) 32 32 h.R := range_bts k.dig.R k.lt k.rR
set_option maxRecDepth 100000 in
theorem HdB.bC (k : HdB w g h) : Bts w (some ⟨g, 33, none⟩) 32 32 h.C := range_bts k.dig.C k.lt k.rC
set_option maxRecDepth 100000 in
theorem HdB.bG (k : HdB w g h) : Bts w (some ⟨g, 65, none⟩) 32 32 h.G := range_bts k.dig.G k.lt k.rG
set_option maxRecDepth 100000 in
theorem HdB.thereAt (k : HdB w g h) (o n : Nat) (hn : o + n ≤ 97) : w.there g o n := fun j hj =>
  ⟨by rw [cell_of_row _ g (o + j) _ _ (0, 0) k.row, Array.getElem?_eq_getElem (by rw [hdA_size k.dig]; omega)]; rfl, k.fr (o + j)⟩
set_option maxRecDepth 100000 in
/-- several cells are written over -/
theorem HdB.puts (k : HdB w g h) (o : Nat) (vs : List Value) (hl : o + vs.length ≤ 97) {h' : Hd} (hd : HdD h') (hv : ∀ j, (hdC h')[j]? = if o ≤ j ∧ j < o + vs.length then vs[j - o]? else (hdC h)[j]?) : HdB (w.setCells g o vs) g h' := by
  obtain ⟨cs, e1, e2, e3⟩ := heap_setCells g 47 vs o w (hdA h) (by rw [hdA_size k.dig]; exact hl) k.row
  refine ⟨e1.trans ?_, hd⟩
  have : cs = hdA h' := by
    apply Array.ext_getElem?
    intro j
    rw [e3 j]
    unfold hdA
    rw [List.getElem?_toArray, List.getElem?_toArray, hv j]
  rw [this]
set_option maxRecDepth 100000 in
theorem HdB.setG (k : HdB w g h) {l : List Int} (hl : Dg l) : HdB (w.setCells g 65 (bv l)) g ⟨h.n, h.R, h.C, l⟩ := by
  have hd : HdD ⟨h.n, h.R, h.C, l⟩ := ⟨k.dig.R, k.dig.C, hl⟩
  have hb : (bv l).length = 32 := by rw [bv_length, hl.1]
  refine k.puts 65 (bv l) (by omega) hd (fun j => ?_)
  rw [hdC_at hd, hdC_at k.dig, hb]
  by_cases h2 : 65 ≤ j ∧ j < 65 + 32
  · rw [if_pos h2, if_neg (by omega), if_neg (by omega), if_neg (by omega)]
  · rw [if_neg h2]
    by_cases h3 : j < 65
    · simp only [h3, if_true]
    · have e1 : (bv l)[j - 65]? = none := List.getElem?_eq_none (by omega)
      have e2 : (bv h.G)[j - 65]? = none := List.getElem?_eq_none (by rw [bv_length, k.dig.G.1]; omega)
      rw [if_neg (show ¬ j = 0 by omega), if_neg (show ¬ j < 33 by omega), if_neg h3, if_neg (show ¬ j = 0 by omega), if_neg (show ¬ j < 33 by omega), if_neg h3, e1, e2]
set_option maxRecDepth 100000 in
/-- all of it is written over -/
theorem NV.hd {N0 : Nat} (k : NV 47 97 N0 g w) (hd : HdD h) : HdB (w.setCells g 0 (hdA h).toList) g h := ⟨k.put (hdA_size hd), hd⟩
set_option maxRecDepth 100000 in
theorem NV.hd_there {N0 : Nat} (k : NV 47 97 N0 g w) (hd : HdD h) : w.there g 0 (hdA h).size := k.there (hdA_size hd)
set_option maxRecDepth 100000 in
theorem HdB.nv (k : HdB w g h) {N0 : Nat} (hN : N0 ≤ g) : NV 47 97 N0 g w := ⟨hN, _, hdA_size k.dig, k.row⟩
set_option maxRecDepth 100000 in
theorem HdB.range (k : HdB w g h) : w.rangeAt g 0 (hdC h) := fun j v hj => by rw [Nat.zero_add]; exact k.cell j hj
end
set_option maxRecDepth 100000 in
theorem hd0_zero : (Tryd.prog.info? 47).map (fun i => i.zero) = some (some (.agg (hdA hd0))) := by kernel_rfl
set_option maxRecDepth 100000 in
theorem hd0_run (w : World) : (zeroValue 47).run Tryd.prog w = .ok (.agg (hdA hd0)) w := by
  obtain ⟨i, h1, h2⟩ := Option.map_eq_some_iff.1 hd0_zero
  simp [zeroValue, typeInfo, h1, h2]
set_option maxRecDepth 100000 in
/-- a head is read whole, also under a guard -/
theorem wpList_load_hd {ops : Array Oper} {rest : List Oper} {o : Oper} {a : Act} {w : World} {Q : Exit → Act → World → Prop} {b : Nat} {h : Hd} (hw : Region.wanted o (yielded ops a.tmps) = true) (x : Operand) (ho : o.op = .load 47 x) (hx : a.eval x = .pointer (some ⟨b, 0, none⟩))
    (hr : HdB w b h) (k : wpList Tryd.prog ops Q rest (a.put o.dst (.agg (hdA h))) w) : wpList Tryd.prog ops Q (o :: rest) a w :=
  wpList_step fun K hK => by
    rw [if_pos hw]
    exact wp_load_mid 47 x ho b 0 hx (hdC h) _ hr.range Tryd.underlying47 rfl (hdC_info hr.dig) (hK _ _ k)
set_option maxRecDepth 100000 in
theorem results_ch {fn : Func} {s p : Tmp} (e : fn.results = #[.cell p 47, .tmp s]) (tmps : Array Value) (w : World) (g : Nat) (h : Hd) (v : Value)
    (hs : tmps.getD s undef = v) (hp : tmps.getD p undef = .pointer (some ⟨g, 0, none⟩)) (hg : HdB w g h) :
    (results fn tmps).run Tryd.prog w = .ok (.tuple #[.agg (hdA h), v]) w := by
  have hp' : tmps[p]?.getD undef = .pointer (some ⟨g, 0, none⟩) := by simpa using hp
  have hs' : tmps[s]?.getD undef = v := by simpa using hs
  simp [results, e, hp', hs', asAddr, run_loadVar_row w g 47 47 (hdA h) (0, 0) _ hg.row Tryd.underlying47 rfl (hdA_info hg.dig)]
set_option maxRecDepth 100000 in
/-- a head that is put into a new variable -/
theorem hd_var (w : World) {h : Hd} (hd : HdD h) : HdB ((w.alloc (.cells (hdA hd0) 47)).setCells w.heap.size 0 (hdA h).toList) w.heap.size h ∧ Below w.heap.size w ((w.alloc (.cells (hdA hd0) 47)).setCells w.heap.size 0 (hdA h).toList) ∧ (w.alloc (.cells (hdA hd0) 47)).there w.heap.size 0 (hdA h).size := by
  have hv : NV 47 97 w.heap.size w.heap.size (w.alloc (.cells (hdA hd0) 47)) := NV.new (Nat.le_refl _) (hdA_size hd0_dg)
  exact ⟨hv.hd hd, below_setCells ((Below.refl _ _).alloc (Nat.le_refl _) _) _ (Nat.le_refl _) _ _, hv.hd_there hd⟩
end Go.Proofs.YtbednfacipphhaaDoor
namespace Go.Proofs.YtbednfacipphhaaDoor
open Go.RowKit
set_option linter.unusedVariables false

/-- a ledger's variable: 67 cells -/
structure LgR (w : World) (own : Nat → Prop) (g : Nat) (K : List Int) (T : List (List Int)) (cs : Array Value) : Prop where
  row : w.heap[g]? = some (.cells cs 77 (0, 0))
  size : cs.size = 67
  made : cs[0]? = some (.bool true)
  key : ∃ a n c, cs[1]? = some (.slice a n c) ∧ Bts w a n c K ∧ (0 < n → ∀ p, a = some p → own p.block)
  txt : ∀ i, i < 64 → ∃ a n c, cs[2 + i]? = some (.slice a n c) ∧ (i < T.length → Bts w a n c (T.getD i []) ∧ (0 < n → ∀ p, a = some p → own p.block))
  num : cs[66]? = some (.int .i64 (T.length : Int))
/-- a ledger with its key and its texts; own: its blocks -/
structure Lg (w : World) (own : Nat → Prop) (g : Nat) (K : List Int) (T : List (List Int)) : Prop where
  og : own g
  lt : ∀ b, own b → b < w.heap.size
  le : T.length ≤ 64
  fit : ∀ t ∈ T, t.length ≤ 160
  kle : K.length ≤ 1000000
  row : ∃ cs, LgR w own g K T cs
section
variable {w w' : World} {own : Nat → Prop} {g : Nat} {K : List Int} {T : List (List Int)}
set_option maxRecDepth 100000 in
theorem Lg.keep (h : Lg w own g K T) (hb : ∀ b, own b → w'.heap[b]? = w.heap[b]?) (hs : w.heap.size ≤ w'.heap.size) : Lg w' own g K T := by
  obtain ⟨cs, r⟩ := h.row
  refine ⟨h.og, fun b hb => Nat.lt_of_lt_of_le (h.lt b hb) hs, h.le, h.fit, h.kle, cs, (hb g h.og).trans r.row, r.size, r.made, ?_, fun i hi => ?_, r.num⟩
  · obtain ⟨a, n, c, e1, e2, e3⟩ := r.key
    exact ⟨a, n, c, e1, e2.keep (fun hp p e => hb _ (e3 hp p e)) hs, e3⟩
  · obtain ⟨a, n, c, e1, e2⟩ := r.txt i hi
    exact ⟨a, n, c, e1, fun hT => ⟨(e2 hT).1.keep (fun hp p e => hb _ ((e2 hT).2 hp p e)) hs, (e2 hT).2⟩⟩
set_option maxRecDepth 100000 in
theorem Lg.below (h : Lg w own g K T) (hb : Below w.heap.size w w') : Lg w' own g K T := h.keep (fun b ho => hb.block b (h.lt b ho)) hb.size
set_option maxRecDepth 100000 in
theorem Lg.kept {own2 : Nat → Prop} (h : Lg w own g K T) (hb : Kept own2 w w') (ho : ∀ b, own b → ¬ own2 b) : Lg w' own g K T := h.keep (fun b hb2 => hb.block b (h.lt b hb2) (ho b hb2)) hb.size
set_option maxRecDepth 100000 in
theorem Lg.glt (h : Lg w own g K T) : g < w.heap.size := h.lt g h.og
set_option maxRecDepth 100000 in
theorem Lg.c0 (h : Lg w own g K T) : w.cell? ⟨g, 0, none⟩ = some (.bool true) := by
  obtain ⟨cs, r⟩ := h.row
  rw [cell_of_row _ g 0 _ _ (0, 0) r.row]; exact r.made
set_option maxRecDepth 100000 in
theorem Lg.c66 (h : Lg w own g K T) : w.cell? ⟨g, 66, none⟩ = some (.int .i64 (T.length : Int)) := by
  obtain ⟨cs, r⟩ := h.row
  rw [cell_of_row _ g 66 _ _ (0, 0) r.row]; exact r.num
set_option maxRecDepth 100000 in
theorem Lg.c1 (h : Lg w own g K T) : ∃ a n c, w.cell? ⟨g, 1, none⟩ = some (.slice a n c) ∧ Bts w a n c K := by
  obtain ⟨cs, r⟩ := h.row
  obtain ⟨a, n, c, e1, e2, _⟩ := r.key
  exact ⟨a, n, c, by rw [cell_of_row _ g 1 _ _ (0, 0) r.row]; exact e1, e2⟩
set_option maxRecDepth 100000 in
theorem Lg.ct (h : Lg w own g K T) (i : Nat) (hi : i < T.length) : ∃ a n c, w.cell? ⟨g, 2 + i, none⟩ = some (.slice a n c) ∧ Bts w a n c (T.getD i []) ∧ n ≤ 160 := by
  obtain ⟨cs, r⟩ := h.row
  obtain ⟨a, n, c, e1, e2⟩ := r.txt i (by have := h.le; omega)
  refine ⟨a, n, c, by rw [cell_of_row _ g (2 + i) _ _ (0, 0) r.row]; exact e1, (e2 hi).1, ?_⟩
  rw [← (e2 hi).1.len_eq]
  refine h.fit _ ?_
  rw [List.getD_eq_getElem?_getD, List.getElem?_eq_getElem hi]; exact List.getElem_mem _
set_option maxRecDepth 100000 in
theorem Lg.fr (h : Lg w own g K T) (i : Nat) : w.frozen? ⟨g, i, none⟩ = false := by
  obtain ⟨cs, r⟩ := h.row
  exact frozen_of_row _ g i _ _ r.row
set_option maxRecDepth 100000 in
theorem Lg.slot (h : Lg w own g K T) (i : Nat) (hi : i < 64) : ∃ a n c, w.cell? ⟨g, 2 + i, none⟩ = some (.slice a n c) := by
  obtain ⟨cs, r⟩ := h.row
  obtain ⟨a, n, c, e1, _⟩ := r.txt i hi
  exact ⟨a, n, c, by rw [cell_of_row _ g (2 + i) _ _ (0, 0) r.row]; exact e1⟩
set_option maxRecDepth 100000 in
theorem Lg.put66 (h : Lg w own g K T) (hl : T.length < 64) (v : Value) : (w.setCell ⟨g, 2 + T.length, none⟩ v).drew.cell? ⟨g, 66, none⟩ = some (.int .i64 (T.length : Int)) ∧ (w.setCell ⟨g, 2 + T.length, none⟩ v).drew.frozen? ⟨g, 66, none⟩ = false := by
  obtain ⟨cs, r⟩ := h.row
  have e1 : (w.setCell ⟨g, 2 + T.length, none⟩ v).drew.heap[g]? = some (.cells (cs.setIfInBounds (2 + T.length) v) 77 (0, 0)) := heap_setCell_same w g (2 + T.length) cs _ v r.row
  refine ⟨?_, frozen_of_row _ g 66 _ _ e1⟩
  rw [cell_of_row _ g 66 _ _ (0, 0) e1, Array.getElem?_setIfInBounds, if_neg (by omega)]; exact r.num
set_option maxRecDepth 100000 in
/-- bytes never lie in it -/
theorem Lg.far (h : Lg w own g K T) {a : Option Addr} {n c : Nat} {l : List Int} (hb : Bts w a n c l) : 0 < n → ∀ p, a = some p → p.block ≠ g := by
  intro hp p e hg
  obtain ⟨b, off, e1, _, hc⟩ := hb.spot hp
  rw [e1] at e; cases e
  have hg : b = g := hg
  subst hg
  have h0 := hc 0 hp
  rw [Nat.add_zero] at h0
  obtain ⟨cs, r⟩ := h.row
  rw [cell_of_row _ b off _ _ (0, 0) r.row] at h0
  have hlt : off < 67 := by have := (Array.getElem?_eq_some_iff.1 h0).1; rw [r.size] at this; exact this
  by_cases h1 : off = 0
  · rw [h1, r.made] at h0; cases h0
  by_cases h2 : off = 1
  · obtain ⟨a, n, c, e1, _⟩ := r.key
    rw [h2, e1] at h0; cases h0
  by_cases h3 : off = 66
  · rw [h3, r.num] at h0; cases h0
  obtain ⟨a, n, c, e1, _⟩ := r.txt (off - 2) (by omega)
  rw [show 2 + (off - 2) = off from by omega, h0] at e1; cases e1
set_option maxRecDepth 100000 in
/-- a text more -/
theorem Lg.put (h : Lg w own g K T) {w1 : World} {m : Int} {own' : Nat → Prop} {a : Option Addr} {n c : Nat} {t : List Int} (hl : T.length < 64) (hT : t.length ≤ 160) (hb : Below w.heap.size w w1) (ht : Bts w1 a n c t)
    (ho1 : ∀ b, own b → own' b) (ho2 : ∀ b, own' b → b < w1.heap.size) (ho3 : 0 < n → ∀ p, a = some p → own' p.block) (hn : ((T.length : Int) + 1) = m) :
    Lg ((w1.setCell ⟨g, 2 + T.length, none⟩ (.slice a n c)).setCell ⟨g, 66, none⟩ (.int .i64 m)) own' g K (T ++ [t]) := by
  have hf := (h.below hb).far ht
  have h1 := h.below hb
  have hfk : ∀ {x : Option Addr} {p q : Nat} {l : List Int}, Bts w1 x p q l → Bts ((w1.setCell ⟨g, 2 + T.length, none⟩ (.slice a n c)).setCell ⟨g, 66, none⟩ (.int .i64 m)) x p q l := fun {x p q l} hx => by
    have hfx := h1.far hx
    refine hx.keep (fun hp y e => ?_) ?_
    · rw [heap_setCell_other _ ⟨g, 66, none⟩ _ _ (hfx hp y e), heap_setCell_other _ ⟨g, 2 + T.length, none⟩ _ _ (hfx hp y e)]
    · simp [World.setCell]
  obtain ⟨cs, r⟩ := h1.row
  have e1 := heap_setCell_same w1 g (2 + T.length) cs _ (.slice a n c) r.row
  have e2 := heap_setCell_same (w1.setCell ⟨g, 2 + T.length, none⟩ (.slice a n c)) g 66 _ _ (.int .i64 m) e1
  refine ⟨ho1 g h.og, fun b hb2 => by have := ho2 b hb2; simpa [World.setCell] using this, by rw [List.length_append]; simp; omega, fun x hx => ?_, h.kle, _, e2, by simp [r.size], ?_, ?_, fun i hi => ?_, ?_⟩
  · rcases List.mem_append.1 hx with h2 | h2
    · exact h.fit x h2
    · rw [List.mem_singleton.1 h2]; exact hT
  · rw [Array.getElem?_setIfInBounds, if_neg (by omega), Array.getElem?_setIfInBounds, if_neg (by omega)]; exact r.made
  · obtain ⟨ka, kn, kc, f1, f2, f3⟩ := r.key
    refine ⟨ka, kn, kc, ?_, hfk f2, fun hp p e => ho1 _ (f3 hp p e)⟩
    rw [Array.getElem?_setIfInBounds, if_neg (by omega), Array.getElem?_setIfInBounds, if_neg (by omega)]; exact f1
  · by_cases hiT : i = T.length
    · subst hiT
      refine ⟨a, n, c, ?_, fun _ => ⟨?_, ho3⟩⟩
      · rw [Array.getElem?_setIfInBounds, if_neg (by omega), Array.getElem?_setIfInBounds, if_pos rfl, if_pos (by rw [r.size]; omega)]
      · rw [List.getD_eq_getElem?_getD, List.getElem?_append_right (Nat.le_refl _), Nat.sub_self]; exact hfk ht
    · obtain ⟨ta, tn, tc, f1, f2⟩ := r.txt i hi
      refine ⟨ta, tn, tc, ?_, fun hi2 => ?_⟩
      · rw [Array.getElem?_setIfInBounds, if_neg (by omega), Array.getElem?_setIfInBounds, if_neg (by omega)]; exact f1
      · rw [List.length_append] at hi2
        have hi3 : i < T.length := by simp at hi2; omega
        obtain ⟨f3, f4⟩ := f2 hi3
        rw [List.getD_eq_getElem?_getD, List.getElem?_append_left hi3, ← List.getD_eq_getElem?_getD]
        exact ⟨hfk f3, fun hp p e => ho1 _ (f4 hp p e)⟩
  · rw [Array.getElem?_setIfInBounds, if_pos rfl, if_pos (by simp [r.size]), List.length_append]
    show some (Value.int .i64 m) = some (.int .i64 ((T.length + 1 : Nat) : Int))
    rw [← hn]; rfl
/-- a ledger that no call made: its pointer -/
def NoLg (w : World) (p : Option Addr) : Prop := p = none ∨ ∃ g cs, p = some ⟨g, 0, none⟩ ∧ w.heap[g]? = some (.cells cs 77 (0, 0)) ∧ cs[0]? = some (.bool false)
set_option maxRecDepth 100000 in
theorem NoLg.below {p : Option Addr} (h : NoLg w p) (hb : Below w.heap.size w w') : NoLg w' p := by
  rcases h with h | ⟨g, cs, e, hr, hc⟩
  · exact .inl h
  · exact .inr ⟨g, cs, e, (hb.block g (Array.getElem?_eq_some_iff.1 hr).1).trans hr, hc⟩
end
end Go.Proofs.YtbednfacipphhaaDoor
namespace Go.Proofs.YtbednfacipphhaaDoor
open Go.RowKit
set_option linter.unusedVariables false

section
variable {w : World} {own : Nat → Prop} {g : Nat} {K : List Int} {T : List (List Int)}
set_option maxHeartbeats 1000000 in
theorem made21_yes (h : Lg w own g K T) :
    Calls Tryd.prog 40 #[.pointer (some ⟨g, 0, none⟩)] w fun e w' => e = .returned (.bool true) ∧ w = w' := by
  have c0 := h.c0
  clear h
  go_enter Tryd.func40, Tryd.ntmps40
  go_wp2_with fail
  go_ret
  exact ⟨rfl, rfl⟩
set_option maxHeartbeats 1000000 in
theorem made21_no (p : Option Addr) (h : NoLg w p) :
    Calls Tryd.prog 40 #[.pointer p] w fun e w' => e = .returned (.bool false) ∧ w = w' := by
  rcases h with rfl | ⟨g, cs, rfl, hr, hc⟩
  · go_enter Tryd.func40, Tryd.ntmps40
    go_wp2_with fail
    go_ret
    exact ⟨rfl, rfl⟩
  · have c0 : w.cell? ⟨g, 0, none⟩ = some (.bool false) := by rw [cell_of_row _ g 0 _ _ (0, 0) hr]; exact hc
    clear hr hc
    go_enter Tryd.func40, Tryd.ntmps40
    go_wp2_with fail
    go_ret
    exact ⟨rfl, rfl⟩
set_option maxHeartbeats 1000000 in
theorem size21_yes (h : Lg w own g K T) :
    Calls Tryd.prog 27 #[.pointer (some ⟨g, 0, none⟩)] w fun e w' => e = .returned (.int .i64 (T.length : Int)) ∧ w = w' := by
  have c66 := h.c66
  go_enter Tryd.func27, Tryd.ntmps27
  go_wp2_with fail
  refine (made21_yes h).mono ?_
  rintro e wz ⟨rfl, hwz⟩
  obtain rfl : wz = w := hwz.symm
  clear hwz
  clear h
  go_wp2_with fail
  go_ret
  exact ⟨rfl, rfl⟩
set_option maxHeartbeats 1000000 in
theorem size21_no (p : Option Addr) (h : NoLg w p) :
    Calls Tryd.prog 27 #[.pointer p] w fun e w' => e = .returned (.int .i64 0) ∧ w = w' := by
  go_enter Tryd.func27, Tryd.ntmps27
  go_wp2_with fail
  refine (made21_no p h).mono ?_
  rintro e wz ⟨rfl, hwz⟩
  obtain rfl : wz = w := hwz.symm
  clear hwz
  clear h
  go_wp2_with fail
  go_ret
  exact ⟨rfl, rfl⟩
end
end Go.Proofs.YtbednfacipphhaaDoor
