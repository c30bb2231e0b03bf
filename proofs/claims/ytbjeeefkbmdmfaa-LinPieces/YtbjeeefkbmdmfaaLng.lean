/- Code that is gone through, in memory. No walk. A place gets a depth; the place that is gone through next. What an instruction takes off and puts on; whether it can be. Whether an instruction can be; whether its number stands in the text. -/
import Derived.Test.YtbjeeefkbmdmfaaLnd
import Derived.Test.YtbjeeefkbmdmfaaLnb
import Derived.Laws.OwnMore
import Derived.BigQuiet
namespace Go.Proofs.Ytbjeeefkbmdmfaa
open Go.RowKit
set_option linter.unusedVariables false

/-- code that is gone through: which it is, its depths, its marks -/
structure Wk (T : TypeId) (base : Nat) (w : World) (g gd cd gg cg : Nat) (a : Option Addr) (len cap : Nat) (D : List Int) (G : List Bool) : Prop where
  row : w.heap[g]? = some (.cells #[.slice a len cap, .slice (some ⟨gd, 0, none⟩) len cd, .slice (some ⟨gg, 0, none⟩) len cg] T (0, 0))
  dep : w.ownsRow base 3 1 (.slice (some ⟨gd, 0, none⟩) len cd) len (D.flatMap ivC)
  gon : w.ownsRow base 4 1 (.slice (some ⟨gg, 0, none⟩) len cg) len (G.flatMap bvC)
  bg : base ≤ g
  n1 : g ≠ gd
  n2 : g ≠ gg
  n3 : gd ≠ gg
  dl : D.length = len
  gl : G.length = len
section
variable {T : TypeId} {base : Nat} {w w' : World} {g gd cd gg cg : Nat} {a : Option Addr} {len cap : Nat} {D : List Int} {G : List Bool}
set_option maxRecDepth 100000 in
theorem Wk.cells (h : Wk T base w g gd cd gg cg a len cap D G) : w.cell? ⟨g, 0, none⟩ = some (.slice a len cap) ∧ w.cell? ⟨g, 1, none⟩ = some (.slice (some ⟨gd, 0, none⟩) len cd) ∧ w.cell? ⟨g, 2, none⟩ = some (.slice (some ⟨gg, 0, none⟩) len cg) :=
  ⟨cell_of_row _ g 0 _ _ (0, 0) h.row, cell_of_row _ g 1 _ _ (0, 0) h.row, cell_of_row _ g 2 _ _ (0, 0) h.row⟩
set_option maxRecDepth 100000 in
theorem Wk.dcell (h : Wk T base w g gd cd gg cg a len cap D G) (j : Nat) (hj : j < len) : w.cell? ⟨gd, j, none⟩ = some (.int .i64 (D.getD j (-1))) ∧ w.frozen? ⟨gd, j, none⟩ = false :=
  ⟨by rw [h.dep.cellAt j (by omega)]; exact iv_get D j (by rw [h.dl]; exact hj) _, h.dep.frozenAt j⟩
set_option maxRecDepth 100000 in
theorem Wk.gcell (h : Wk T base w g gd cd gg cg a len cap D G) (j : Nat) (hj : j < len) : w.cell? ⟨gg, j, none⟩ = some (.bool (G.getD j true)) ∧ w.frozen? ⟨gg, j, none⟩ = false :=
  ⟨by rw [h.gon.cellAt j (by omega)]; exact bv_get' G j (by rw [h.gl]; exact hj) _, h.gon.frozenAt j⟩
set_option maxRecDepth 100000 in
theorem Wk.lt (h : Wk T base w g gd cd gg cg a len cap D G) : g < w.heap.size := (Array.getElem?_eq_some_iff.1 h.row).1
set_option maxRecDepth 100000 in
theorem Wk.ged (h : Wk T base w g gd cd gg cg a len cap D G) : base ≤ gd := (h.dep.lt gd rfl).1
set_option maxRecDepth 100000 in
theorem Wk.geg (h : Wk T base w g gd cd gg cg a len cap D G) : base ≤ gg := (h.gon.lt gg rfl).1
set_option maxRecDepth 100000 in
theorem Wk.below (h : Wk T base w g gd cd gg cg a len cap D G) (hb : Below w.heap.size w w') : Wk T base w' g gd cd gg cg a len cap D G :=
  ⟨(hb.block g h.lt).trans h.row, owns_below h.dep hb, owns_below h.gon hb, h.bg, h.n1, h.n2, h.n3, h.dl, h.gl⟩
set_option maxRecDepth 100000 in
theorem Wk.drewN (h : Wk T base w g gd cd gg cg a len cap D G) (n : Nat) : Wk T base (w.drewN n) g gd cd gg cg a len cap D G := h.below (below_drewN (Below.refl _ _) n)
set_option maxRecDepth 100000 in
theorem Wk.setD (h : Wk T base w g gd cd gg cg a len cap D G) (j : Nat) (d : Int) : Wk T base (w.setCell ⟨gd, j, none⟩ (.int .i64 d)) g gd cd gg cg a len cap (D.set j d) G := by
  have h1 := (h.dep.stored j (.int .i64 d)).1
  rw [iv_set] at h1
  exact ⟨(heap_setCell_other w ⟨gd, j, none⟩ g _ h.n1).trans h.row, h1, ownsRow_setCell_other h.gon (a := ⟨gd, j, none⟩) (fun e => h.n3 (by cases e; rfl)) _, h.bg, h.n1, h.n2, h.n3, by rw [List.length_set]; exact h.dl, h.gl⟩
set_option maxRecDepth 100000 in
theorem Wk.setG (h : Wk T base w g gd cd gg cg a len cap D G) (j : Nat) (d : Bool) : Wk T base (w.setCell ⟨gg, j, none⟩ (.bool d)) g gd cd gg cg a len cap D (G.set j d) := by
  have h1 := (h.gon.stored j (.bool d)).1
  rw [bv_set] at h1
  exact ⟨(heap_setCell_other w ⟨gg, j, none⟩ g _ h.n2).trans h.row, ownsRow_setCell_other h.dep (a := ⟨gg, j, none⟩) (fun e => h.n3 (by cases e; rfl)) _, h1, h.bg, h.n1, h.n2, h.n3, h.dl, by rw [List.length_set]; exact h.gl⟩
end
set_option maxRecDepth 100000 in
theorem lead_past {D : List Int} {t : Nat} {d : Int} (h : D.length ≤ t) : lead D t d = (D, 6) := by unfold lead; rw [if_pos h]
set_option maxRecDepth 100000 in
theorem lead_new {D : List Int} {t : Nat} {d : Int} (h : t < D.length) (e : D.getD t (-1) = -1) : lead D t d = (D.set t d, 0) := by unfold lead; rw [if_neg (by omega), if_pos e]
set_option maxRecDepth 100000 in
theorem lead_flow {D : List Int} {t : Nat} {d : Int} (h : t < D.length) (e : D.getD t (-1) ≠ -1) (k : D.getD t (-1) ≠ d) : lead D t d = (D, 16) := by unfold lead; rw [if_neg (by omega), if_neg e, if_pos k]
set_option maxRecDepth 100000 in
theorem lead_fit {D : List Int} {t : Nat} {d : Int} (h : t < D.length) (e : D.getD t (-1) ≠ -1) (k : D.getD t (-1) = d) : lead D t d = (D, 0) := by unfold lead; rw [if_neg (by omega), if_neg e, if_neg (fun h => h k)]
/-- depths are none, or from 0 to 8 -/
def DB (D : List Int) : Prop := ∀ q, D.getD q (-1) = -1 ∨ (0 ≤ D.getD q (-1) ∧ D.getD q (-1) ≤ 8)
set_option maxRecDepth 100000 in
theorem lead_db {D : List Int} {t : Nat} {d : Int} (h : DB D) (h0 : 0 ≤ d) (h8 : d ≤ 8) : DB (lead D t d).1 := by
  unfold lead
  split
  · exact h
  · rename_i h1
    split
    · intro q
      simp only
      by_cases e : t = q
      · subst e
        rw [List.getD_eq_getElem?_getD, List.getElem?_set_self (by omega)]
        exact .inr ⟨h0, h8⟩
      · rw [List.getD_eq_getElem?_getD, List.getElem?_set_ne e, ← List.getD_eq_getElem?_getD]; exact h q
    · split <;> exact h
set_option maxRecDepth 100000 in
theorem goS_db {x : Ic} {D : List Int} {p : Nat} (hx : isO x.o = true) (hd : 0 ≤ D.getD p (-1)) (h : DB D) : DB (goS x D p).1 := by
  have hb := tbl_bd hx
  unfold goS
  generalize hdd : D.getD p (-1) - tkO x.o + ptO x.o = d
  split
  · exact h
  · split
    · exact h
    · have h0 : 0 ≤ d := by omega
      have h8 : d ≤ 8 := by omega
      split
      · exact lead_db h h0 h8
      · split
        · exact lead_db h h0 h8
        · split
          · split
            · exact lead_db h h0 h8
            · exact lead_db (lead_db h h0 h8) h0 h8
          · exact h
set_option maxRecDepth 100000 in
theorem db_zero (n : Nat) : DB (D0 n) := by
  intro q
  unfold D0
  by_cases e : q = 0
  · subst e
    by_cases h : 0 < n
    · rw [List.getD_eq_getElem?_getD, List.getElem?_set_self (by rw [List.length_replicate]; exact h)]; exact .inr ⟨by decide, by decide⟩
    · have : n = 0 := by omega
      subst this; exact .inl rfl
  · rw [List.getD_eq_getElem?_getD, List.getElem?_set_ne (fun k => e k.symm), List.getElem?_replicate]; left; split <;> rfl
end Go.Proofs.Ytbjeeefkbmdmfaa
namespace Go.Proofs.Ytbjeeefkbmdmfaa
open Go.RowKit
set_option linter.unusedVariables false

set_option maxHeartbeats 1000000 in
theorem lead_any {base : Nat} {g gd cd gg cg : Nat} {a : Option Addr} {len cap : Nat} {D : List Int} {G : List Bool} (t : Nat) (d : Int) (w : World) (h : Wk 141 base w g gd cd gg cg a len cap D G) (ht : t ≤ len) (hl : len ≤ 1000000) :
    Calls Try.prog 91 #[.pointer (some ⟨g, 0, none⟩), .int .i64 t, .int .i64 d] w fun e w' => e = .returned (.int .i64 (lead D t d).2) ∧ Wk 141 base w' g gd cd gg cg a len cap (lead D t d).1 G ∧ Kept (fun k => k = gd) w w' := by
  have H := Bx.mk h
  obtain ⟨x0, x1, _⟩ := h.cells
  have HDL : Bx (D.length = len) := ⟨h.dl⟩
  by_cases he : t = len
  · subst he
    rw [lead_past (by rw [HDL.out]; exact Nat.le_refl _)]
    clear h
    -- one way through
    go_enter Try.func91, Try.ntmps91
    go_wp2_with fail
    go_ret
    exact ⟨rfl, H.out, Kept.refl _ _⟩
  · have hlt : t < len := by omega
    have hq : ((t : Int) == (len : Int)) = false := by simp; omega
    have hq2 : ¬ (len : Int) ≤ (t : Int) := by omega
    have hq3 : (t : Int) < (len : Int) := by omega
    obtain ⟨y0, y1⟩ := h.dcell t hlt
    by_cases e : D.getD t (-1) = -1
    · rw [lead_new (by rw [HDL.out]; exact hlt) e]
      rw [e] at y0
      have HS := Bx.mk (h.setD t d)
      have HB : Bx (Kept (fun k => k = gd) w (w.setCell ⟨gd, t, none⟩ (.int .i64 d))) := ⟨(Kept.refl (fun k => k = gd) w).setCell (g := gd) (Or.inl (Eq.refl gd)) _ _⟩
      obtain ⟨_, z1, _⟩ := HS.out.cells
      obtain ⟨z0, _⟩ := HS.out.dcell t hlt
      rw [show (D.set t d).getD t (-1) = d from by rw [List.getD_eq_getElem?_getD, List.getElem?_set_self (by rw [HDL.out]; exact hlt)]; rfl] at z0
      have hs : (d != d) = false := by simp
      clear h he e
      -- one way through
      go_enter Try.func91, Try.ntmps91
      go_wp2_with fail
      go_ret
      exact ⟨rfl, HS.out, HB.out⟩
    · by_cases k : D.getD t (-1) = d
      · rw [lead_fit (by rw [HDL.out]; exact hlt) e k]
        rw [k] at y0
        have hs : (d != d) = false := by simp
        have hs2 : (d == -1) = false := by rw [← k]; simpa using e
        clear h he e k
        -- one way through
        go_enter Try.func91, Try.ntmps91
        go_wp2_with fail
        go_ret
        exact ⟨rfl, H.out, Kept.refl _ _⟩
      · rw [lead_flow (by rw [HDL.out]; exact hlt) e k]
        have hs : (D.getD t (-1) != d) = true := by simpa using k
        have hs2 : (D.getD t (-1) == -1) = false := by simpa using e
        generalize D.getD t (-1) = x at y0 hs hs2
        clear h he e k
        -- one way through
        go_enter Try.func91, Try.ntmps91
        go_wp2_with fail
        go_ret
        exact ⟨rfl, H.out, Kept.refl _ _⟩
set_option maxHeartbeats 1000000 in
theorem leads_any {base : Nat} {g gd cd gg cg : Nat} {a : Option Addr} {len cap : Nat} {D : List Int} {G : List Bool} (t : Nat) (d : Int) (w : World) (h : Wk 123 base w g gd cd gg cg a len cap D G) (ht : t ≤ len) (hl : len ≤ 1000000) :
    Calls Try.prog 81 #[.pointer (some ⟨g, 0, none⟩), .int .i64 t, .int .i64 d] w fun e w' => e = .returned (.int .i64 (lead D t d).2) ∧ Wk 123 base w' g gd cd gg cg a len cap (lead D t d).1 G ∧ Kept (fun k => k = gd) w w' := by
  have H := Bx.mk h
  obtain ⟨x0, x1, _⟩ := h.cells
  have HDL : Bx (D.length = len) := ⟨h.dl⟩
  by_cases he : t = len
  · subst he
    rw [lead_past (by rw [HDL.out]; exact Nat.le_refl _)]
    clear h
    -- one way through
    go_enter Try.func81, Try.ntmps81
    go_wp2_with fail
    go_ret
    exact ⟨rfl, H.out, Kept.refl _ _⟩
  · have hlt : t < len := by omega
    have hq : ((t : Int) == (len : Int)) = false := by simp; omega
    have hq2 : ¬ (len : Int) ≤ (t : Int) := by omega
    have hq3 : (t : Int) < (len : Int) := by omega
    obtain ⟨y0, y1⟩ := h.dcell t hlt
    by_cases e : D.getD t (-1) = -1
    · rw [lead_new (by rw [HDL.out]; exact hlt) e]
      rw [e] at y0
      have HS := Bx.mk (h.setD t d)
      have HB : Bx (Kept (fun k => k = gd) w (w.setCell ⟨gd, t, none⟩ (.int .i64 d))) := ⟨(Kept.refl (fun k => k = gd) w).setCell (g := gd) (Or.inl (Eq.refl gd)) _ _⟩
      obtain ⟨_, z1, _⟩ := HS.out.cells
      obtain ⟨z0, _⟩ := HS.out.dcell t hlt
      rw [show (D.set t d).getD t (-1) = d from by rw [List.getD_eq_getElem?_getD, List.getElem?_set_self (by rw [HDL.out]; exact hlt)]; rfl] at z0
      have hs : (d != d) = false := by simp
      clear h he e
      -- one way through
      go_enter Try.func81, Try.ntmps81
      go_wp2_with fail
      go_ret
      exact ⟨rfl, HS.out, HB.out⟩
    · by_cases k : D.getD t (-1) = d
      · rw [lead_fit (by rw [HDL.out]; exact hlt) e k]
        rw [k] at y0
        have hs : (d != d) = false := by simp
        have hs2 : (d == -1) = false := by rw [← k]; simpa using e
        clear h he e k
        -- one way through
        go_enter Try.func81, Try.ntmps81
        go_wp2_with fail
        go_ret
        exact ⟨rfl, H.out, Kept.refl _ _⟩
      · rw [lead_flow (by rw [HDL.out]; exact hlt) e k]
        have hs : (D.getD t (-1) != d) = true := by simpa using k
        have hs2 : (D.getD t (-1) == -1) = false := by simpa using e
        generalize D.getD t (-1) = x at y0 hs hs2
        clear h he e k
        -- one way through
        go_enter Try.func81, Try.ntmps81
        go_wp2_with fail
        go_ret
        exact ⟨rfl, H.out, Kept.refl _ _⟩
/-- from a place on -/
def nxtR (D : List Int) (G : List Bool) (i : Nat) : Option Nat := nxtF i (D.drop i) (G.drop i)
set_option maxRecDepth 100000 in
theorem nxtR_zero (D : List Int) (G : List Bool) : nxtR D G 0 = nxt D G := rfl
set_option maxRecDepth 100000 in
theorem nxtR_end {D : List Int} {G : List Bool} {i : Nat} (h : D.length ≤ i) : nxtR D G i = none := by unfold nxtR; rw [List.drop_of_length_le h]; cases G.drop i <;> rfl
set_option maxRecDepth 100000 in
theorem nxtR_step {D : List Int} {G : List Bool} {i : Nat} (h : i < D.length) (k : i < G.length) : nxtR D G i = if G.getD i true = false ∧ D.getD i (-1) ≠ -1 then some i else nxtR D G (i + 1) := by
  unfold nxtR
  rw [List.drop_eq_getElem_cons h, List.drop_eq_getElem_cons k, List.getD_eq_getElem?_getD, List.getD_eq_getElem?_getD, List.getElem?_eq_getElem h, List.getElem?_eq_getElem k]
  rfl
/-- what next answers -/
def nxV (o : Option Nat) : Value := match o with | some p => .tuple #[.int .i64 p, .bool true] | none => .tuple #[.int .i64 0, .bool false]
set_option maxHeartbeats 1000000 in
theorem next_any {base : Nat} {g gd cd gg cg : Nat} {a : Option Addr} {len cap : Nat} {D : List Int} {G : List Bool} (w : World) (h : Wk 141 base w g gd cd gg cg a len cap D G) (hl : len ≤ 1000000) :
    Calls Try.prog 78 #[.pointer (some ⟨g, 0, none⟩)] w fun e w' => e = .returned (nxV (nxt D G)) ∧ w' = w := by
  have H := Bx.mk h
  obtain ⟨x0, x1, x2⟩ := h.cells
  have HDL : Bx (D.length = len) := ⟨h.dl⟩
  have HGL : Bx (G.length = len) := ⟨h.gl⟩
  clear h
  go_enter Try.func78, Try.ntmps78
  go_wp2_with fail
  go_loop [11] (fun i => ∃ m : Nat, m ≤ len ∧ i = .int .i64 m ∧ Bx (nxtR D G m = nxt D G)) (fun i => len - (intOf i).toNat)
  case atStart => exact ⟨0, Nat.zero_le _, rfl, ⟨rfl⟩⟩
  case round =>
    obtain ⟨m, hml, rfl, HN⟩ := hrel
    by_cases hlt : m < len
    · have hkI : (m : Int) < (len : Int) := by omega
      obtain ⟨y0, _⟩ := H.out.dcell m hlt
      obtain ⟨z0, _⟩ := H.out.gcell m hlt
      have HST : Bx (nxt D G = if G.getD m true = false ∧ D.getD m (-1) ≠ -1 then some m else nxtR D G (m + 1)) := ⟨by rw [← HN.out]; exact nxtR_step (by rw [HDL.out]; exact hlt) (by rw [HGL.out]; exact hlt)⟩
      generalize D.getD m (-1) = d at y0 HST
      generalize G.getD m true = q at z0 HST
      by_cases hd : d = -1
      · have HN2 : Bx (nxtR D G (m + 1) = nxt D G) := ⟨by rw [HST.out, if_neg (fun k => k.2 hd)]⟩
        have hs : (d != -1) = false := by simpa using hd
        clear hd
        go_wp2_with fail
        go_round
        case rel => exact ⟨m + 1, by omega, by go_num, HN2⟩
        case measure => simp [intOf]; omega
      · have hs : (d != -1) = true := by simpa using hd
        cases q with
        | true =>
          have HN2 : Bx (nxtR D G (m + 1) = nxt D G) := ⟨by rw [HST.out, if_neg (fun k => by cases k.1)]⟩
          clear hd
          go_wp2_with fail
          go_round
          case rel => exact ⟨m + 1, by omega, by go_num, HN2⟩
          case measure => simp [intOf]; omega
        | false =>
          have HN2 : Bx (nxt D G = some m) := ⟨by rw [HST.out, if_pos ⟨rfl, hd⟩]⟩
          clear hd
          go_wp2_with fail
          go_ret2
          exact ⟨by rw [HN2.out]; rfl, rfl⟩
    · obtain rfl : m = len := by omega
      have hkI : ¬ (m : Int) < (m : Int) := by omega
      have HN2 : Bx (nxt D G = none) := ⟨by rw [← HN.out]; exact nxtR_end (by rw [HDL.out]; exact Nat.le_refl _)⟩
      go_wp2_with fail
      go_ret2
      exact ⟨by rw [HN2.out]; rfl, rfl⟩
end Go.Proofs.Ytbjeeefkbmdmfaa
namespace Go.Proofs.Ytbjeeefkbmdmfaa
open Go.RowKit
set_option linter.unusedVariables false

set_option maxRecDepth 100000 in
theorem beq_no {o : Int} {k : Int} (h : ¬ (0 ≤ o ∧ o ≤ 19)) (hk : 0 ≤ k ∧ k ≤ 19) : (o == k) = false := by rw [beq_eq_false_iff_ne]; omega
set_option maxRecDepth 100000 in
theorem tkA_no {o : Int} (h : ¬ (0 ≤ o ∧ o ≤ 19)) : tkA o = -1 := by unfold tkA; rw [if_neg (fun k => h ((isO_iff o).1 k))]
set_option maxRecDepth 100000 in
theorem ptA_no {o : Int} (h : ¬ (0 ≤ o ∧ o ≤ 19)) : ptA o = -1 := by unfold ptA; rw [if_neg (fun k => h ((isO_iff o).1 k))]
set_option maxRecDepth 100000 in
theorem tkA_is {o : Int} (h : isO o = true) : tkA o = tkO o := by unfold tkA; rw [if_pos h]
set_option maxRecDepth 100000 in
theorem ptA_is {o : Int} (h : isO o = true) : ptA o = ptO o := by unfold ptA; rw [if_pos h]
set_option maxHeartbeats 2000000 in
theorem takes_any (o : Int) (w : World) :
    Calls Try.prog 88 #[.int .i64 o] w fun e w' => e = .returned (.int .i64 (tkA o)) ∧ w' = w := by
  by_cases hn : 0 ≤ o ∧ o ≤ 19
  · rcases op_cases ((isO_iff o).2 hn) with h | h | h | h | h | h | h | h | h | h | h | h | h | h | h | h | h | h | h | h <;> subst h <;> clear hn
    all_goals
      go_enter Try.func88, Try.ntmps88
      go_wp2_with fail
      go_ret
      exact ⟨rfl, rfl⟩
  · rw [tkA_no hn]
    -- an Op that is none: each comparison fails
    have q0 := beq_no (k := 0) hn (by decide)
    have q1 := beq_no (k := 1) hn (by decide)
    have q2 := beq_no (k := 2) hn (by decide)
    have q3 := beq_no (k := 3) hn (by decide)
    have q4 := beq_no (k := 4) hn (by decide)
    have q5 := beq_no (k := 5) hn (by decide)
    have q6 := beq_no (k := 6) hn (by decide)
    have q7 := beq_no (k := 7) hn (by decide)
    have q8 := beq_no (k := 8) hn (by decide)
    have q9 := beq_no (k := 9) hn (by decide)
    have q10 := beq_no (k := 10) hn (by decide)
    have q11 := beq_no (k := 11) hn (by decide)
    have q12 := beq_no (k := 12) hn (by decide)
    have q13 := beq_no (k := 13) hn (by decide)
    have q14 := beq_no (k := 14) hn (by decide)
    have q15 := beq_no (k := 15) hn (by decide)
    have q16 := beq_no (k := 16) hn (by decide)
    have q17 := beq_no (k := 17) hn (by decide)
    have q18 := beq_no (k := 18) hn (by decide)
    have q19 := beq_no (k := 19) hn (by decide)
    clear hn
    go_enter Try.func88, Try.ntmps88
    go_wp2_with fail
    go_ret
    exact ⟨rfl, rfl⟩
set_option maxHeartbeats 2000000 in
theorem puts_any (o : Int) (w : World) :
    Calls Try.prog 89 #[.int .i64 o] w fun e w' => e = .returned (.int .i64 (ptA o)) ∧ w' = w := by
  by_cases hn : 0 ≤ o ∧ o ≤ 19
  · rcases op_cases ((isO_iff o).2 hn) with h | h | h | h | h | h | h | h | h | h | h | h | h | h | h | h | h | h | h | h <;> subst h <;> clear hn
    all_goals
      go_enter Try.func89, Try.ntmps89
      go_wp2_with fail
      go_ret
      exact ⟨rfl, rfl⟩
  · rw [ptA_no hn]
    -- an Op that is none: each comparison fails
    have q0 := beq_no (k := 0) hn (by decide)
    have q1 := beq_no (k := 1) hn (by decide)
    have q2 := beq_no (k := 2) hn (by decide)
    have q3 := beq_no (k := 3) hn (by decide)
    have q4 := beq_no (k := 4) hn (by decide)
    have q5 := beq_no (k := 5) hn (by decide)
    have q6 := beq_no (k := 6) hn (by decide)
    have q7 := beq_no (k := 7) hn (by decide)
    have q8 := beq_no (k := 8) hn (by decide)
    have q9 := beq_no (k := 9) hn (by decide)
    have q10 := beq_no (k := 10) hn (by decide)
    have q11 := beq_no (k := 11) hn (by decide)
    have q12 := beq_no (k := 12) hn (by decide)
    have q13 := beq_no (k := 13) hn (by decide)
    have q14 := beq_no (k := 14) hn (by decide)
    have q15 := beq_no (k := 15) hn (by decide)
    have q16 := beq_no (k := 16) hn (by decide)
    have q17 := beq_no (k := 17) hn (by decide)
    have q18 := beq_no (k := 18) hn (by decide)
    have q19 := beq_no (k := 19) hn (by decide)
    clear hn
    go_enter Try.func89, Try.ntmps89
    go_wp2_with fail
    go_ret
    exact ⟨rfl, rfl⟩
/-- goes on behind, goes on at N -/
def behB (o : Int) : Bool := !(o == 16) && !(o == 18) && !(o == 19)
def jmpB (o : Int) : Bool := o == 16 || o == 17
set_option maxRecDepth 100000 in
theorem jumps_any (o : Int) (w : World) :
    Calls Try.prog 92 #[.int .i64 o] w fun e w' => e = .returned (.bool (jmpB o)) ∧ w' = w := by
  by_cases h1 : (o == 16) = true
  · have e : jmpB o = true := by unfold jmpB; rw [h1]; rfl
    rw [e]; clear e
    go_enter Try.func92, Try.ntmps92
    go_wp2_with fail
    go_ret
    exact ⟨rfl, rfl⟩
  · have h1 : (o == 16) = false := by simpa using h1
    have e : jmpB o = (o == 17) := by unfold jmpB; rw [h1]; rfl
    rw [e]; clear e
    go_enter Try.func92, Try.ntmps92
    go_wp2_with fail
    go_ret
    exact ⟨rfl, rfl⟩
set_option maxRecDepth 100000 in
theorem behind15_any (o : Int) (w : World) :
    Calls Try.prog 90 #[.int .i64 o] w fun e w' => e = .returned (.bool (behB o)) ∧ w' = w := by
  by_cases h1 : (o == 16) = true
  · have e : behB o = false := by unfold behB; rw [h1]; rfl
    have h2 : (o != 16) = false := by simpa using h1
    rw [e]; clear e
    go_enter Try.func90, Try.ntmps90
    go_wp2_with fail
    go_ret
    exact ⟨rfl, rfl⟩
  · have h1 : (o == 16) = false := by simpa using h1
    have h2 : (o != 16) = true := by simpa using h1
    by_cases k1 : (o == 18) = true
    · have e : behB o = false := by unfold behB; rw [h1, k1]; rfl
      have k2 : (o != 18) = false := by simpa using k1
      rw [e]; clear e
      go_enter Try.func90, Try.ntmps90
      go_wp2_with fail
      go_ret
      exact ⟨rfl, rfl⟩
    · have k1 : (o == 18) = false := by simpa using k1
      have k2 : (o != 18) = true := by simpa using k1
      have e : behB o = (o != 19) := by unfold behB; rw [h1, k1]; rfl
      rw [e]; clear e
      go_enter Try.func90, Try.ntmps90
      go_wp2_with fail
      go_ret
      exact ⟨rfl, rfl⟩
set_option maxRecDepth 100000 in
theorem beh_th {o : Int} (h : isO o = true) : behB o = decide (thO o = 0 ∨ thO o = 2) := by
  rcases op_cases h with h | h | h | h | h | h | h | h | h | h | h | h | h | h | h | h | h | h | h | h <;> subst h <;> decide
set_option maxRecDepth 100000 in
theorem jmp_th {o : Int} (h : isO o = true) : jmpB o = decide (thO o = 1 ∨ thO o = 2) := by
  rcases op_cases h with h | h | h | h | h | h | h | h | h | h | h | h | h | h | h | h | h | h | h | h <;> subst h <;> decide
end Go.Proofs.Ytbjeeefkbmdmfaa
namespace Go.Proofs.Ytbjeeefkbmdmfaa
open Go.RowKit
set_option linter.unusedVariables false

set_option maxRecDepth 100000 in
theorem canI_no {m : Nat} {o n : Int} (h : ¬ (0 ≤ o ∧ o ≤ 19)) : canI m ⟨o, n⟩ = false := by
  unfold canI
  rw [Bool.eq_false_iff.2 (fun k => h ((isO_iff o).1 k))]; rfl
set_option maxHeartbeats 4000000 in
set_option maxRecDepth 100000 in
theorem can15_any (o n : Int) (m : Nat) (w : World) (hm : m ≤ 1000000) :
    Calls Try.prog 76 #[.agg #[.int .i64 o, .int .i64 n], .int .i64 m] w fun e w' => e = .returned (.bool (canI m ⟨o, n⟩)) ∧ Below w.heap.size w w' := by
  have hbl : Below w.heap.size w (w.alloc (.cells #[.int .i64 o, .int .i64 n] 77)) := (Below.refl _ _).alloc (Nat.le_refl _) _
  by_cases hn : 0 ≤ o ∧ o ≤ 19
  · rcases op_cases ((isO_iff o).2 hn) with h | h | h | h | h | h | h | h | h | h | h | h | h | h | h | h | h | h | h | h <;> subst h <;> clear hn
    · have hc : canI m ⟨0, n⟩ = true := rfl
      rw [hc]; clear hc
      go_enter Try.func76, Try.ntmps76
      go_wp2_with fail
      go_ret
      exact ⟨rfl, hbl⟩
    · skip
      -- no number
      have hc : canI m ⟨1, n⟩ = (n == 0) := by unfold canI numB; by_cases h : n = 0 <;> simp [h, isO, nkO]
      rw [hc]; clear hc
      go_enter Try.func76, Try.ntmps76
      go_wp2_with (go_at_call 88; refine (takes_any _ _).mono ?_; rintro e wz ⟨rfl, rfl⟩; rw [show tkA 1 = 1 from rfl])
      go_ret
      exact ⟨rfl, hbl⟩
    · skip
      -- no number
      have hc : canI m ⟨2, n⟩ = (n == 0) := by unfold canI numB; by_cases h : n = 0 <;> simp [h, isO, nkO]
      rw [hc]; clear hc
      go_enter Try.func76, Try.ntmps76
      go_wp2_with (go_at_call 88; refine (takes_any _ _).mono ?_; rintro e wz ⟨rfl, rfl⟩; rw [show tkA 2 = 1 from rfl])
      go_ret
      exact ⟨rfl, hbl⟩
    · skip
      -- no number
      have hc : canI m ⟨3, n⟩ = (n == 0) := by unfold canI numB; by_cases h : n = 0 <;> simp [h, isO, nkO]
      rw [hc]; clear hc
      go_enter Try.func76, Try.ntmps76
      go_wp2_with (go_at_call 88; refine (takes_any _ _).mono ?_; rintro e wz ⟨rfl, rfl⟩; rw [show tkA 3 = 2 from rfl])
      go_ret
      exact ⟨rfl, hbl⟩
    · skip
      -- a cell
      by_cases h0 : 0 ≤ n
      · have hc : canI m ⟨4, n⟩ = decide (n < 4) := by
          unfold canI numB; simp [isO, nkO, h0]; omega
        rw [hc]; clear hc
        go_enter Try.func76, Try.ntmps76
        go_wp2_with fail
        go_ret
        exact ⟨rfl, hbl⟩
      · have hc : canI m ⟨4, n⟩ = false := by unfold canI numB; simp [isO, nkO]; omega
        rw [hc]; clear hc
        go_enter Try.func76, Try.ntmps76
        go_wp2_with fail
        go_ret
        exact ⟨rfl, hbl⟩
    · skip
      -- a cell
      by_cases h0 : 0 ≤ n
      · have hc : canI m ⟨5, n⟩ = decide (n < 4) := by
          unfold canI numB; simp [isO, nkO, h0]; omega
        rw [hc]; clear hc
        go_enter Try.func76, Try.ntmps76
        go_wp2_with fail
        go_ret
        exact ⟨rfl, hbl⟩
      · have hc : canI m ⟨5, n⟩ = false := by unfold canI numB; simp [isO, nkO]; omega
        rw [hc]; clear hc
        go_enter Try.func76, Try.ntmps76
        go_wp2_with fail
        go_ret
        exact ⟨rfl, hbl⟩
    · skip
      -- no number
      have hc : canI m ⟨6, n⟩ = (n == 0) := by unfold canI numB; by_cases h : n = 0 <;> simp [h, isO, nkO]
      rw [hc]; clear hc
      go_enter Try.func76, Try.ntmps76
      go_wp2_with (go_at_call 88; refine (takes_any _ _).mono ?_; rintro e wz ⟨rfl, rfl⟩; rw [show tkA 6 = 0 from rfl])
      go_ret
      exact ⟨rfl, hbl⟩
    · skip
      -- no number
      have hc : canI m ⟨7, n⟩ = (n == 0) := by unfold canI numB; by_cases h : n = 0 <;> simp [h, isO, nkO]
      rw [hc]; clear hc
      go_enter Try.func76, Try.ntmps76
      go_wp2_with (go_at_call 88; refine (takes_any _ _).mono ?_; rintro e wz ⟨rfl, rfl⟩; rw [show tkA 7 = 0 from rfl])
      go_ret
      exact ⟨rfl, hbl⟩
    · skip
      -- no number
      have hc : canI m ⟨8, n⟩ = (n == 0) := by unfold canI numB; by_cases h : n = 0 <;> simp [h, isO, nkO]
      rw [hc]; clear hc
      go_enter Try.func76, Try.ntmps76
      go_wp2_with (go_at_call 88; refine (takes_any _ _).mono ?_; rintro e wz ⟨rfl, rfl⟩; rw [show tkA 8 = 2 from rfl])
      go_ret
      exact ⟨rfl, hbl⟩
    · skip
      -- no number
      have hc : canI m ⟨9, n⟩ = (n == 0) := by unfold canI numB; by_cases h : n = 0 <;> simp [h, isO, nkO]
      rw [hc]; clear hc
      go_enter Try.func76, Try.ntmps76
      go_wp2_with (go_at_call 88; refine (takes_any _ _).mono ?_; rintro e wz ⟨rfl, rfl⟩; rw [show tkA 9 = 2 from rfl])
      go_ret
      exact ⟨rfl, hbl⟩
    · skip
      -- no number
      have hc : canI m ⟨10, n⟩ = (n == 0) := by unfold canI numB; by_cases h : n = 0 <;> simp [h, isO, nkO]
      rw [hc]; clear hc
      go_enter Try.func76, Try.ntmps76
      go_wp2_with (go_at_call 88; refine (takes_any _ _).mono ?_; rintro e wz ⟨rfl, rfl⟩; rw [show tkA 10 = 2 from rfl])
      go_ret
      exact ⟨rfl, hbl⟩
    · skip
      -- no number
      have hc : canI m ⟨11, n⟩ = (n == 0) := by unfold canI numB; by_cases h : n = 0 <;> simp [h, isO, nkO]
      rw [hc]; clear hc
      go_enter Try.func76, Try.ntmps76
      go_wp2_with (go_at_call 88; refine (takes_any _ _).mono ?_; rintro e wz ⟨rfl, rfl⟩; rw [show tkA 11 = 2 from rfl])
      go_ret
      exact ⟨rfl, hbl⟩
    · skip
      -- no number
      have hc : canI m ⟨12, n⟩ = (n == 0) := by unfold canI numB; by_cases h : n = 0 <;> simp [h, isO, nkO]
      rw [hc]; clear hc
      go_enter Try.func76, Try.ntmps76
      go_wp2_with (go_at_call 88; refine (takes_any _ _).mono ?_; rintro e wz ⟨rfl, rfl⟩; rw [show tkA 12 = 2 from rfl])
      go_ret
      exact ⟨rfl, hbl⟩
    · skip
      -- no number
      have hc : canI m ⟨13, n⟩ = (n == 0) := by unfold canI numB; by_cases h : n = 0 <;> simp [h, isO, nkO]
      rw [hc]; clear hc
      go_enter Try.func76, Try.ntmps76
      go_wp2_with (go_at_call 88; refine (takes_any _ _).mono ?_; rintro e wz ⟨rfl, rfl⟩; rw [show tkA 13 = 2 from rfl])
      go_ret
      exact ⟨rfl, hbl⟩
    · skip
      -- no number
      have hc : canI m ⟨14, n⟩ = (n == 0) := by unfold canI numB; by_cases h : n = 0 <;> simp [h, isO, nkO]
      rw [hc]; clear hc
      go_enter Try.func76, Try.ntmps76
      go_wp2_with (go_at_call 88; refine (takes_any _ _).mono ?_; rintro e wz ⟨rfl, rfl⟩; rw [show tkA 14 = 2 from rfl])
      go_ret
      exact ⟨rfl, hbl⟩
    · skip
      -- no number
      have hc : canI m ⟨15, n⟩ = (n == 0) := by unfold canI numB; by_cases h : n = 0 <;> simp [h, isO, nkO]
      rw [hc]; clear hc
      go_enter Try.func76, Try.ntmps76
      go_wp2_with (go_at_call 88; refine (takes_any _ _).mono ?_; rintro e wz ⟨rfl, rfl⟩; rw [show tkA 15 = 1 from rfl])
      go_ret
      exact ⟨rfl, hbl⟩
    · skip
      -- a place
      by_cases h0 : 0 ≤ n
      · have hc : canI m ⟨16, n⟩ = decide (n < (m : Int)) := by
          unfold canI numB; simp [isO, nkO, h0]
        rw [hc]; clear hc
        go_enter Try.func76, Try.ntmps76
        go_wp2_with fail
        go_ret
        exact ⟨rfl, hbl⟩
      · have hc : canI m ⟨16, n⟩ = false := by unfold canI numB; simp [isO, nkO]; omega
        rw [hc]; clear hc
        go_enter Try.func76, Try.ntmps76
        go_wp2_with fail
        go_ret
        exact ⟨rfl, hbl⟩
    · skip
      -- a place
      by_cases h0 : 0 ≤ n
      · have hc : canI m ⟨17, n⟩ = decide (n < (m : Int)) := by
          unfold canI numB; simp [isO, nkO, h0]
        rw [hc]; clear hc
        go_enter Try.func76, Try.ntmps76
        go_wp2_with fail
        go_ret
        exact ⟨rfl, hbl⟩
      · have hc : canI m ⟨17, n⟩ = false := by unfold canI numB; simp [isO, nkO]; omega
        rw [hc]; clear hc
        go_enter Try.func76, Try.ntmps76
        go_wp2_with fail
        go_ret
        exact ⟨rfl, hbl⟩
    · skip
      -- no number
      have hc : canI m ⟨18, n⟩ = (n == 0) := by unfold canI numB; by_cases h : n = 0 <;> simp [h, isO, nkO]
      rw [hc]; clear hc
      go_enter Try.func76, Try.ntmps76
      go_wp2_with (go_at_call 88; refine (takes_any _ _).mono ?_; rintro e wz ⟨rfl, rfl⟩; rw [show tkA 18 = 1 from rfl])
      go_ret
      exact ⟨rfl, hbl⟩
    · skip
      -- no number
      have hc : canI m ⟨19, n⟩ = (n == 0) := by unfold canI numB; by_cases h : n = 0 <;> simp [h, isO, nkO]
      rw [hc]; clear hc
      go_enter Try.func76, Try.ntmps76
      go_wp2_with (go_at_call 88; refine (takes_any _ _).mono ?_; rintro e wz ⟨rfl, rfl⟩; rw [show tkA 19 = 0 from rfl])
      go_ret
      exact ⟨rfl, hbl⟩
  · rw [canI_no hn]
    have q0 := beq_no (k := 0) hn (by decide)
    have q4 := beq_no (k := 4) hn (by decide)
    have q5 := beq_no (k := 5) hn (by decide)
    have q16 := beq_no (k := 16) hn (by decide)
    have q17 := beq_no (k := 17) hn (by decide)
    have ht := tkA_no hn
    clear hn
    go_enter Try.func76, Try.ntmps76
    go_wp2_with (go_at_call 88; refine (takes_any _ _).mono ?_; rintro e wz ⟨rfl, rfl⟩; rw [ht])
    go_ret
    exact ⟨rfl, hbl⟩
end Go.Proofs.Ytbjeeefkbmdmfaa
