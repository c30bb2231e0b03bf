/- Entries in memory. No walk. -/
import Derived.Test.YtbednfacipphhaaDoorAuae
import Derived.Test.YtbednfacipphhaaDoorAuam
import Derived.Test.YtbednfacipphhaaDoorAuab
namespace Go.Proofs.YtbednfacipphhaaDoor
open Go.RowKit
set_option linter.unusedVariables false

/-- an entry's cells; its order is a slice -/
def enC (e : En) (a : Option Addr) (n c : Nat) : List Value := .int .i64 e.j :: .int .i64 e.t :: (bv e.H ++ (bv e.S ++ [.int .i64 e.k, .slice a n c, .int .i64 e.r]))
def enA (e : En) (a : Option Addr) (n c : Nat) : Array Value := (enC e a n c).toArray
def EnD (e : En) : Prop := Dig e.H ∧ Dig e.S
set_option maxRecDepth 100000 in
theorem dg0_dig : Dig dg0 := ⟨rfl, fun c hc => by rw [List.eq_of_mem_replicate hc]; decide⟩
set_option maxRecDepth 100000 in
theorem en0_dig : EnD en0 := ⟨dg0_dig, dg0_dig⟩
section
variable {e : En} {a : Option Addr} {n c : Nat} {w w' : World} {g : Nat}
set_option maxRecDepth 100000 in
theorem enC_len (h : EnD e) : (enC e a n c).length = 69 := by
  unfold enC
  simp only [List.length_cons, List.length_append, bv_length, h.1.1, h.2.1, List.length_nil]
set_option maxRecDepth 100000 in
theorem enA_size (h : EnD e) : (enA e a n c).size = 69 := by unfold enA; rw [List.size_toArray, enC_len h]
set_option maxRecDepth 100000 in
theorem enC_one : ∀ u ∈ enC e a n c, u.oneCell' = true := fun u hu => by
  unfold enC at hu
  simp only [List.mem_cons, List.mem_append, List.not_mem_nil, or_false] at hu
  rcases hu with rfl | rfl | h | h | rfl | rfl | rfl
  · rfl
  · rfl
  · exact bv_one _ u h
  · exact bv_one _ u h
  · rfl
  · rfl
  · rfl
set_option maxRecDepth 100000 in
theorem enA_one : (enA e a n c).all (·.oneCell') = true := all_oneCell_toArray enC_one
set_option maxRecDepth 100000 in
theorem en_info : (Tryd.prog.info? 35).map (·.size) = some 69 := by kernel_rfl
set_option maxRecDepth 100000 in
theorem enA_info (h : EnD e) : (Tryd.prog.info? 35).map (·.size) = some (enA e a n c).size := by rw [enA_size h]; exact en_info
set_option maxRecDepth 100000 in
theorem dgE_info : (Tryd.prog.info? 30).map (·.size) = some 32 := by kernel_rfl
set_option maxRecDepth 100000 in
/-- cell by cell -/
theorem enC_at (h : EnD e) (i : Nat) : (enC e a n c)[i]? = if i = 0 then some (.int .i64 e.j) else if i = 1 then some (.int .i64 e.t) else if i < 34 then (bv e.H)[i - 2]? else if i < 66 then (bv e.S)[i - 34]? else if i = 66 then some (.int .i64 e.k) else if i = 67 then some (.slice a n c) else if i = 68 then some (.int .i64 e.r) else none := by
  have hH : (bv e.H).length = 32 := by rw [bv_length, h.1.1]
  have hS : (bv e.S).length = 32 := by rw [bv_length, h.2.1]
  unfold enC
  by_cases i0 : i = 0
  · subst i0; rfl
  rw [if_neg i0]
  by_cases i1 : i = 1
  · subst i1; rfl
  rw [if_neg i1, show i = i - 2 + 1 + 1 from by omega, List.getElem?_cons_succ, List.getElem?_cons_succ, show i - 2 + 1 + 1 = i from by omega]
  by_cases i2 : i < 34
  · rw [if_pos i2, List.getElem?_append_left (by omega)]
  rw [if_neg i2, List.getElem?_append_right (by omega), hH, show i - 2 - 32 = i - 34 from by omega]
  by_cases i3 : i < 66
  · rw [if_pos i3, List.getElem?_append_left (by omega)]
  rw [if_neg i3, List.getElem?_append_right (by omega), hS, show i - 34 - 32 = i - 66 from by omega]
  by_cases i4 : i = 66
  · subst i4; rfl
  by_cases i5 : i = 67
  · subst i5; rfl
  by_cases i6 : i = 68
  · subst i6; rfl
  rw [if_neg i4, if_neg i5, if_neg i6, List.getElem?_eq_none (by simp; omega)]
/-- an entry in a variable -/
structure EnB (w : World) (g : Nat) (e : En) (a : Option Addr) (n c : Nat) : Prop where
  row : w.heap[g]? = some (.cells (enA e a n c) 35 (0, 0))
  dig : EnD e
set_option maxRecDepth 100000 in
theorem EnB.lt (h : EnB w g e a n c) : g < w.heap.size := (Array.getElem?_eq_some_iff.1 h.row).1
set_option maxRecDepth 100000 in
theorem EnB.keep (h : EnB w g e a n c) (hb : w'.heap[g]? = w.heap[g]?) : EnB w' g e a n c := ⟨hb.trans h.row, h.dig⟩
set_option maxRecDepth 100000 in
theorem EnB.below (h : EnB w g e a n c) (hb : Below w.heap.size w w') : EnB w' g e a n c := h.keep (hb.block g h.lt)
set_option maxRecDepth 100000 in
theorem EnB.kept {own : Nat → Prop} (h : EnB w g e a n c) (hb : Kept own w w') (ho : ¬ own g) : EnB w' g e a n c := h.keep (hb.block g h.lt ho)
set_option maxRecDepth 100000 in
theorem EnB.new (w : World) (h : EnD e) : EnB (w.alloc (.cells (enA e a n c) 35)) w.heap.size e a n c := ⟨heap_alloc_new _ _, h⟩
set_option maxRecDepth 100000 in
theorem EnB.cell (h : EnB w g e a n c) (i : Nat) {v : Value} (hv : (enC e a n c)[i]? = some v) : w.cell? ⟨g, i, none⟩ = some v := by
  rw [cell_of_row _ g i _ _ (0, 0) h.row]; unfold enA; rw [List.getElem?_toArray]; exact hv
set_option maxRecDepth 100000 in
theorem EnB.c0 (h : EnB w g e a n c) : w.cell? ⟨g, 0, none⟩ = some (.int .i64 e.j) := h.cell 0 rfl
set_option maxRecDepth 100000 in
theorem EnB.c1 (h : EnB w g e a n c) : w.cell? ⟨g, 1, none⟩ = some (.int .i64 e.t) := h.cell 1 rfl
set_option maxRecDepth 100000 in
theorem EnB.c66 (h : EnB w g e a n c) : w.cell? ⟨g, 66, none⟩ = some (.int .i64 e.k) := h.cell 66 (by rw [enC_at h.dig]; rfl)
set_option maxRecDepth 100000 in
theorem EnB.c67 (h : EnB w g e a n c) : w.cell? ⟨g, 67, none⟩ = some (.slice a n c) := h.cell 67 (by rw [enC_at h.dig]; rfl)
set_option maxRecDepth 100000 in
theorem EnB.c68 (h : EnB w g e a n c) : w.cell? ⟨g, 68, none⟩ = some (.int .i64 e.r) := h.cell 68 (by rw [enC_at h.dig]; rfl)
set_option maxRecDepth 100000 in
theorem EnB.cH (h : EnB w g e a n c) (i : Nat) (hi : i < 32) : w.cell? ⟨g, 2 + i, none⟩ = some (.int .u8 (e.H.getD i 0)) := h.cell (2 + i) (by
  rw [enC_at h.dig, if_neg (by omega), if_neg (by omega), if_pos (by omega), show 2 + i - 2 = i from by omega, bv_get, List.getElem?_eq_getElem (by rw [h.dig.1.1]; exact hi), List.getD_eq_getElem?_getD, List.getElem?_eq_getElem (by rw [h.dig.1.1]; exact hi)]; rfl)
set_option maxRecDepth 100000 in
theorem EnB.cS (h : EnB w g e a n c) (i : Nat) (hi : i < 32) : w.cell? ⟨g, 34 + i, none⟩ = some (.int .u8 (e.S.getD i 0)) := h.cell (34 + i) (by
  rw [enC_at h.dig, if_neg (by omega), if_neg (by omega), if_neg (by omega), if_pos (by omega), show 34 + i - 34 = i from by omega, bv_get, List.getElem?_eq_getElem (by rw [h.dig.2.1]; exact hi), List.getD_eq_getElem?_getD, List.getElem?_eq_getElem (by rw [h.dig.2.1]; exact hi)]; rfl)
set_option maxRecDepth 100000 in
theorem EnB.fr (h : EnB w g e a n c) (i : Nat) : w.frozen? ⟨g, i, none⟩ = false := frozen_of_row _ g i _ _ h.row
set_option maxRecDepth 100000 in
theorem EnB.bH (h : EnB w g e a n c) : Bts w (some ⟨g, 2, none⟩) 32 32 e.H := ⟨h.dig.1.1, h.dig.1.2, Nat.le_refl _, by unfold maxLen; omega, (fun hh => by cases hh), fun _ => ⟨g, 2, rfl, h.lt, fun i hi => h.cH i hi⟩⟩
set_option maxRecDepth 100000 in
theorem EnB.bS (h : EnB w g e a n c) : Bts w (some ⟨g, 34, none⟩) 32 32 e.S := ⟨h.dig.2.1, h.dig.2.2, Nat.le_refl _, by unfold maxLen; omega, (fun hh => by cases hh), fun _ => ⟨g, 34, rfl, h.lt, fun i hi => h.cS i hi⟩⟩
set_option maxRecDepth 100000 in
/-- one cell is written over -/
theorem EnB.put (h : EnB w g e a n c) (i : Nat) (v : Value) {e' : En} {a' : Option Addr} {n' c' : Nat} (hd : EnD e') (hi : i < 69) (hv : (enC e' a' n' c')[i]? = some v) (ho : ∀ j, j ≠ i → (enC e' a' n' c')[j]? = (enC e a n c)[j]?) : EnB (w.setCell ⟨g, i, none⟩ v) g e' a' n' c' := by
  refine ⟨(heap_setCell_same w g i _ _ v h.row).trans ?_, hd⟩
  have : (enA e a n c).setIfInBounds i v = enA e' a' n' c' := by
    apply Array.ext_getElem?
    intro j
    rw [Array.getElem?_setIfInBounds]
    by_cases hj : i = j
    · subst hj
      rw [if_pos rfl, if_pos (by rw [enA_size h.dig]; exact hi)]
      unfold enA; rw [List.getElem?_toArray]; exact hv.symm
    · rw [if_neg hj]
      unfold enA; rw [List.getElem?_toArray, List.getElem?_toArray]; exact (ho j (Ne.symm hj)).symm
  rw [this]
set_option maxRecDepth 100000 in
theorem EnB.setJ (h : EnB w g e a n c) (x : Int) : EnB (w.setCell ⟨g, 0, none⟩ (.int .i64 x)) g ⟨x, e.t, e.H, e.S, e.k, e.r, e.o⟩ a n c :=
  h.put 0 _ h.dig (by decide) rfl (fun j hj => by rw [enC_at h.dig, enC_at (e := ⟨x, e.t, e.H, e.S, e.k, e.r, e.o⟩) h.dig, if_neg hj, if_neg hj])
set_option maxRecDepth 100000 in
theorem EnB.setT (h : EnB w g e a n c) (x : Int) : EnB (w.setCell ⟨g, 1, none⟩ (.int .i64 x)) g ⟨e.j, x, e.H, e.S, e.k, e.r, e.o⟩ a n c :=
  h.put 1 _ h.dig (by decide) rfl (fun j hj => by rw [enC_at h.dig, enC_at (e := ⟨e.j, x, e.H, e.S, e.k, e.r, e.o⟩) h.dig, if_neg hj, if_neg hj])
set_option maxRecDepth 100000 in
theorem EnB.setK (h : EnB w g e a n c) (x : Int) : EnB (w.setCell ⟨g, 66, none⟩ (.int .i64 x)) g ⟨e.j, e.t, e.H, e.S, x, e.r, e.o⟩ a n c :=
  h.put 66 _ h.dig (by decide) (by rw [enC_at (e := ⟨e.j, e.t, e.H, e.S, x, e.r, e.o⟩) h.dig]; rfl) (fun j hj => by rw [enC_at h.dig, enC_at (e := ⟨e.j, e.t, e.H, e.S, x, e.r, e.o⟩) h.dig, if_neg hj, if_neg hj])
set_option maxRecDepth 100000 in
theorem EnB.setO (h : EnB w g e a n c) (a' : Option Addr) (n' c' : Nat) (o : List Int) : EnB (w.setCell ⟨g, 67, none⟩ (.slice a' n' c')) g ⟨e.j, e.t, e.H, e.S, e.k, e.r, o⟩ a' n' c' :=
  h.put 67 _ h.dig (by decide) (by rw [enC_at (e := ⟨e.j, e.t, e.H, e.S, e.k, e.r, o⟩) h.dig]; rfl) (fun j hj => by rw [enC_at h.dig, enC_at (e := ⟨e.j, e.t, e.H, e.S, e.k, e.r, o⟩) h.dig, if_neg hj, if_neg hj])
set_option maxRecDepth 100000 in
theorem EnB.setR (h : EnB w g e a n c) (x : Int) : EnB (w.setCell ⟨g, 68, none⟩ (.int .i64 x)) g ⟨e.j, e.t, e.H, e.S, e.k, x, e.o⟩ a n c :=
  h.put 68 _ h.dig (by decide) (by rw [enC_at (e := ⟨e.j, e.t, e.H, e.S, e.k, x, e.o⟩) h.dig]; rfl) (fun j hj => by rw [enC_at h.dig, enC_at (e := ⟨e.j, e.t, e.H, e.S, e.k, x, e.o⟩) h.dig, if_neg hj, if_neg hj])
set_option maxRecDepth 100000 in
theorem set_len (l : List Int) (i : Nat) (x : Int) (h : Dig l) (hx : 0 ≤ x ∧ x ≤ 255) : Dig (l.set i x) := ⟨by rw [List.length_set, h.1], fun c hc => by rcases List.mem_or_eq_of_mem_set hc with h1 | h1; exact h.2 c h1; rw [h1]; exact hx⟩
set_option maxRecDepth 100000 in
theorem EnB.setHi (h : EnB w g e a n c) (i : Nat) (hi : i < 32) (x : Int) (hx : 0 ≤ x ∧ x ≤ 255) : EnB (w.setCell ⟨g, 2 + i, none⟩ (.int .u8 x)) g ⟨e.j, e.t, e.H.set i x, e.S, e.k, e.r, e.o⟩ a n c := by
  have hd : EnD ⟨e.j, e.t, e.H.set i x, e.S, e.k, e.r, e.o⟩ := ⟨set_len _ _ _ h.dig.1 hx, h.dig.2⟩
  refine h.put (2 + i) _ hd (by omega) ?_ (fun j hj => ?_)
  · rw [enC_at hd, if_neg (by omega), if_neg (by omega), if_pos (by omega), show 2 + i - 2 = i from by omega, bv_get]
    simp only
    rw [List.getElem?_set, if_pos rfl, if_pos (by rw [h.dig.1.1]; exact hi)]; rfl
  · rw [enC_at hd, enC_at h.dig]
    by_cases h0 : j = 0
    · rw [if_pos h0, if_pos h0]
    by_cases h1 : j = 1
    · rw [if_neg h0, if_neg h0, if_pos h1, if_pos h1]
    rw [if_neg h0, if_neg h0, if_neg h1, if_neg h1]
    by_cases h2 : j < 34
    · rw [if_pos h2, if_pos h2, bv_get, bv_get]
      simp only
      rw [List.getElem?_set, if_neg (by omega)]
    · rw [if_neg h2, if_neg h2]
set_option maxRecDepth 100000 in
theorem EnB.setSi (h : EnB w g e a n c) (i : Nat) (hi : i < 32) (x : Int) (hx : 0 ≤ x ∧ x ≤ 255) : EnB (w.setCell ⟨g, 34 + i, none⟩ (.int .u8 x)) g ⟨e.j, e.t, e.H, e.S.set i x, e.k, e.r, e.o⟩ a n c := by
  have hd : EnD ⟨e.j, e.t, e.H, e.S.set i x, e.k, e.r, e.o⟩ := ⟨h.dig.1, set_len _ _ _ h.dig.2 hx⟩
  refine h.put (34 + i) _ hd (by omega) ?_ (fun j hj => ?_)
  · rw [enC_at hd, if_neg (by omega), if_neg (by omega), if_neg (by omega), if_pos (by omega), show 34 + i - 34 = i from by omega, bv_get]
    simp only
    rw [List.getElem?_set, if_pos rfl, if_pos (by rw [h.dig.2.1]; exact hi)]; rfl
  · rw [enC_at hd, enC_at h.dig]
    by_cases h2 : j < 34
    · simp only [h2, if_true]
    by_cases h3 : j < 66
    · have h0 : j ≠ 0 := by omega
      have h1 : j ≠ 1 := by omega
      rw [if_neg h0, if_neg h0, if_neg h1, if_neg h1, if_neg h2, if_neg h2, if_pos h3, if_pos h3, bv_get, bv_get]
      simp only
      rw [List.getElem?_set, if_neg (by omega)]
    · simp only [h2, h3, if_false]
set_option maxRecDepth 100000 in
/-- several cells are written over -/
theorem EnB.puts (h : EnB w g e a n c) (o : Nat) (vs : List Value) (hl : o + vs.length ≤ 69) {e' : En} {a' : Option Addr} {n' c' : Nat} (hd : EnD e') (hv : ∀ j, (enC e' a' n' c')[j]? = if o ≤ j ∧ j < o + vs.length then vs[j - o]? else (enC e a n c)[j]?) : EnB (w.setCells g o vs) g e' a' n' c' := by
  obtain ⟨cs, e1, e2, e3⟩ := heap_setCells g 35 vs o w (enA e a n c) (by rw [enA_size h.dig]; exact hl) h.row
  refine ⟨e1.trans ?_, hd⟩
  have : cs = enA e' a' n' c' := by
    apply Array.ext_getElem?
    intro j
    rw [e3 j]
    unfold enA
    rw [List.getElem?_toArray, List.getElem?_toArray, hv j]
  rw [this]
set_option maxRecDepth 100000 in
theorem EnB.setH (h : EnB w g e a n c) {l : List Int} (hl : Dig l) : EnB (w.setCells g 2 (bv l)) g ⟨e.j, e.t, l, e.S, e.k, e.r, e.o⟩ a n c := by
  have hd : EnD ⟨e.j, e.t, l, e.S, e.k, e.r, e.o⟩ := ⟨hl, h.dig.2⟩
  have hb : (bv l).length = 32 := by rw [bv_length, hl.1]
  refine h.puts 2 (bv l) (by omega) hd (fun j => ?_)
  rw [enC_at hd, enC_at h.dig, hb]
  by_cases h2 : 2 ≤ j ∧ j < 2 + 32
  · rw [if_pos h2, if_neg (by omega), if_neg (by omega), if_pos (by omega)]
  · rw [if_neg h2]
    by_cases h0 : j = 0
    · rw [if_pos h0, if_pos h0]
    by_cases h1 : j = 1
    · rw [if_neg h0, if_neg h0, if_pos h1, if_pos h1]
    have h3 : ¬ j < 34 := by omega
    simp only [h0, h1, h3, if_false]
set_option maxRecDepth 100000 in
theorem EnB.setS (h : EnB w g e a n c) {l : List Int} (hl : Dig l) : EnB (w.setCells g 34 (bv l)) g ⟨e.j, e.t, e.H, l, e.k, e.r, e.o⟩ a n c := by
  have hd : EnD ⟨e.j, e.t, e.H, l, e.k, e.r, e.o⟩ := ⟨h.dig.1, hl⟩
  have hb : (bv l).length = 32 := by rw [bv_length, hl.1]
  refine h.puts 34 (bv l) (by omega) hd (fun j => ?_)
  rw [enC_at hd, enC_at h.dig, hb]
  by_cases h2 : 34 ≤ j ∧ j < 34 + 32
  · rw [if_pos h2, if_neg (by omega), if_neg (by omega), if_neg (by omega), if_pos (by omega)]
  · rw [if_neg h2]
    by_cases h3 : j < 34
    · simp only [h3, if_true]
    · simp only [h3, if_false]
      rw [if_neg (show ¬ j < 66 by omega), if_neg (show ¬ j < 66 by omega)]
set_option maxRecDepth 100000 in
/-- all of it is written over -/
theorem NV.en {N0 : Nat} (h : NV 35 69 N0 g w) (hd : EnD e) : EnB (w.setCells g 0 (enA e a n c).toList) g e a n c := ⟨h.put (enA_size hd), hd⟩
set_option maxRecDepth 100000 in
theorem NV.en_there {N0 : Nat} (h : NV 35 69 N0 g w) (hd : EnD e) : w.there g 0 (enA e a n c).size := h.there (enA_size hd)
set_option maxRecDepth 100000 in
theorem EnB.nv (h : EnB w g e a n c) {N0 : Nat} (hN : N0 ≤ g) : NV 35 69 N0 g w := ⟨hN, _, enA_size h.dig, h.row⟩
set_option maxRecDepth 100000 in
theorem EnB.dgH (h : EnB w g e a n c) : w.rangeAt g 2 (bv e.H) := fun j v hj => by
  have hl : j < 32 := by have := (List.getElem?_eq_some_iff.1 hj).1; rwa [bv_length, h.dig.1.1] at this
  rw [h.cell (2 + j) (v := v) (by rw [enC_at h.dig, if_neg (by omega), if_neg (by omega), if_pos (by omega), show 2 + j - 2 = j from by omega]; exact hj)]
set_option maxRecDepth 100000 in
theorem EnB.dgS (h : EnB w g e a n c) : w.rangeAt g 34 (bv e.S) := fun j v hj => by
  have hl : j < 32 := by have := (List.getElem?_eq_some_iff.1 hj).1; rwa [bv_length, h.dig.2.1] at this
  rw [h.cell (34 + j) (v := v) (by rw [enC_at h.dig, if_neg (by omega), if_neg (by omega), if_neg (by omega), if_pos (by omega), show 34 + j - 34 = j from by omega]; exact hj)]
end
set_option maxRecDepth 100000 in
/-- a digest within an entry, all of it -/
theorem dg_at (g o : Nat) (w : World) : (Instr.sliceAt 30 (.pointer (some ⟨g, o, none⟩)) none none none).run Tryd.prog w = .ok (.slice (some ⟨g, o, none⟩) 32 32) w := by
  have hlen : Tryd.prog.arrayLen 30 = 32 := by kernel_rfl
  have ht : Tryd.prog.underlying 30 = some (.array (Tryd.prog.arrayLen 30) (Tryd.prog.elem 30)) := by kernel_rfl
  have hsz : (sizeOf (Tryd.prog.elem 30)).run Tryd.prog w = .ok 1 w := by kernel_rfl
  rw [run_sliceAt_array_all w 30 ⟨g, o, none⟩ ht, hsz, hlen]
  simp only [Result.andThen_ok, slicedAt]
  rw [if_neg (by decide), Addr.add_lit]
  rfl
set_option maxRecDepth 100000 in
/-- the zero entry, written out -/
theorem en0_zero : (Tryd.prog.info? 35).map (fun i => i.zero) = some (some (.agg (enA en0 none 0 0))) := by kernel_rfl
set_option maxRecDepth 100000 in
theorem en0_run (w : World) : (zeroValue 35).run Tryd.prog w = .ok (.agg (enA en0 none 0 0)) w := by
  obtain ⟨i, h1, h2⟩ := Option.map_eq_some_iff.1 en0_zero
  simp [zeroValue, typeInfo, h1, h2]
set_option maxRecDepth 100000 in
theorem range_rowE {w : World} {b : Nat} {t : TypeId} {D : Array Value} (h : w.heap[b]? = some (.cells D t (0, 0))) : w.rangeAt b 0 D.toList := fun j v hj => by
  rw [Nat.zero_add, cell_of_row _ b j _ _ (0, 0) h, ← Array.getElem?_toList]; exact hj
set_option maxRecDepth 100000 in
/-- an entry is read whole, also under a guard -/
theorem wpList_load_en {ops : Array Oper} {rest : List Oper} {o : Oper} {a : Act} {w : World} {Q : Exit → Act → World → Prop} {b : Nat} {e : En} {sa : Option Addr} {sn sc : Nat} (hw : Region.wanted o (yielded ops a.tmps) = true) (x : Operand) (ho : o.op = .load 35 x) (hx : a.eval x = .pointer (some ⟨b, 0, none⟩))
    (hr : EnB w b e sa sn sc) (h : wpList Tryd.prog ops Q rest (a.put o.dst (.agg (enA e sa sn sc))) w) : wpList Tryd.prog ops Q (o :: rest) a w :=
  wpList_step fun K hK => by
    rw [if_pos hw]
    exact wp_load_mid 35 x ho b 0 hx (enA e sa sn sc).toList _ (range_rowE hr.row) Tryd.underlying35 rfl (by rw [Array.length_toList]; exact enA_info hr.dig) (hK _ _ h)
set_option maxRecDepth 100000 in
theorem results_ce {fn : Func} {s p : Tmp} (h : fn.results = #[.cell p 35, .tmp s]) (tmps : Array Value) (w : World) (g : Nat) (e : En) (a : Option Addr) (n c : Nat) (v : Value)
    (hs : tmps.getD s undef = v) (hp : tmps.getD p undef = .pointer (some ⟨g, 0, none⟩)) (hg : EnB w g e a n c) :
    (results fn tmps).run Tryd.prog w = .ok (.tuple #[.agg (enA e a n c), v]) w := by
  have hp' : tmps[p]?.getD undef = .pointer (some ⟨g, 0, none⟩) := by simpa using hp
  have hs' : tmps[s]?.getD undef = v := by simpa using hs
  simp [results, h, hp', hs', asAddr, run_loadVar_row w g 35 35 (enA e a n c) (0, 0) _ hg.row Tryd.underlying35 rfl (enA_info hg.dig)]
end Go.Proofs.YtbednfacipphhaaDoor
