/- A place gets a depth; the place that is gone through next. -/
import Derived.Test.YtckgplemdmgekaaCWk
import Derived.BigQuiet
namespace Go.Proofs.Ytckgplemdmgekaa
open Go.RowKit
set_option linter.unusedVariables false

set_option maxHeartbeats 1000000 in
theorem lead_any {base : Nat} {g gd cd gg cg : Nat} {a : Option Addr} {len cap : Nat} {D : List Int} {G : List Bool} (t : Nat) (d : Int) (w : World) (h : Wk 91 base w g gd cd gg cg a len cap D G) (ht : t ≤ len) (hl : len ≤ 1000000) :
    Calls Try.prog 56 #[.pointer (some ⟨g, 0, none⟩), .int .i64 t, .int .i64 d] w fun e w' => e = .returned (.int .i64 (lead D t d).2) ∧ Wk 91 base w' g gd cd gg cg a len cap (lead D t d).1 G ∧ Kept (fun k => k = gd) w w' := by
  have H := Bx.mk h
  obtain ⟨x0, x1, _⟩ := h.cells
  have HDL : Bx (D.length = len) := ⟨h.dl⟩
  by_cases he : t = len
  · subst he
    rw [lead_past (by rw [HDL.out]; exact Nat.le_refl _)]
    clear h
    -- one way through
    go_enter Try.func56, Try.ntmps56
    go_wp2_with fail
    go_ret
    exact ⟨rfl, H.out, Kept.refl _ _⟩
  · have hlt : t < len := by omega
    have hq : ((t : Int) == (len : Int)) = false := by simp; omega
    have hq2 : ¬ (len : Int) ≤ (t : Int) := by omega
    have hq3 : (t : Int) < (len : Int) := by omega
    obtain ⟨y0, y1⟩ := h.dcell t hlt
    by_cases e : D.getD t (-1) = -1
    · rw [lead_new (by rw [HDL.out]; exact hlt) e]
      rw [e] at y0
      have HS := Bx.mk (h.setD t d)
      have HB : Bx (Kept (fun k => k = gd) w (w.setCell ⟨gd, t, none⟩ (.int .i64 d))) := ⟨(Kept.refl (fun k => k = gd) w).setCell (g := gd) (Or.inl (Eq.refl gd)) _ _⟩
      obtain ⟨_, z1, _⟩ := HS.out.cells
      obtain ⟨z0, _⟩ := HS.out.dcell t hlt
      rw [show (D.set t d).getD t (-1) = d from by rw [List.getD_eq_getElem?_getD, List.getElem?_set_self (by rw [HDL.out]; exact hlt)]; rfl] at z0
      have hs : (d != d) = false := by simp
      clear h he e
      -- one way through
      go_enter Try.func56, Try.ntmps56
      go_wp2_with fail
      go_ret
      exact ⟨rfl, HS.out, HB.out⟩
    · by_cases k : D.getD t (-1) = d
      · rw [lead_fit (by rw [HDL.out]; exact hlt) e k]
        rw [k] at y0
        have hs : (d != d) = false := by simp
        have hs2 : (d == -1) = false := by rw [← k]; simpa using e
        clear h he e k
        -- one way through
        go_enter Try.func56, Try.ntmps56
        go_wp2_with fail
        go_ret
        exact ⟨rfl, H.out, Kept.refl _ _⟩
      · rw [lead_flow (by rw [HDL.out]; exact hlt) e k]
        have hs : (D.getD t (-1) != d) = true := by simpa using k
        have hs2 : (D.getD t (-1) == -1) = false := by simpa using e
        generalize D.getD t (-1) = x at y0 hs hs2
        clear h he e k
        -- one way through
        go_enter Try.func56, Try.ntmps56
        go_wp2_with fail
        go_ret
        exact ⟨rfl, H.out, Kept.refl _ _⟩
set_option maxHeartbeats 1000000 in
theorem leads_any {base : Nat} {g gd cd gg cg : Nat} {a : Option Addr} {len cap : Nat} {D : List Int} {G : List Bool} (t : Nat) (d : Int) (w : World) (h : Wk 77 base w g gd cd gg cg a len cap D G) (ht : t ≤ len) (hl : len ≤ 1000000) :
    Calls Try.prog 49 #[.pointer (some ⟨g, 0, none⟩), .int .i64 t, .int .i64 d] w fun e w' => e = .returned (.int .i64 (lead D t d).2) ∧ Wk 77 base w' g gd cd gg cg a len cap (lead D t d).1 G ∧ Kept (fun k => k = gd) w w' := by
  have H := Bx.mk h
  obtain ⟨x0, x1, _⟩ := h.cells
  have HDL : Bx (D.length = len) := ⟨h.dl⟩
  by_cases he : t = len
  · subst he
    rw [lead_past (by rw [HDL.out]; exact Nat.le_refl _)]
    clear h
    -- one way through
    go_enter Try.func49, Try.ntmps49
    go_wp2_with fail
    go_ret
    exact ⟨rfl, H.out, Kept.refl _ _⟩
  · have hlt : t < len := by omega
    have hq : ((t : Int) == (len : Int)) = false := by simp; omega
    have hq2 : ¬ (len : Int) ≤ (t : Int) := by omega
    have hq3 : (t : Int) < (len : Int) := by omega
    obtain ⟨y0, y1⟩ := h.dcell t hlt
    by_cases e : D.getD t (-1) = -1
    · rw [lead_new (by rw [HDL.out]; exact hlt) e]
      rw [e] at y0
      have HS := Bx.mk (h.setD t d)
      have HB : Bx (Kept (fun k => k = gd) w (w.setCell ⟨gd, t, none⟩ (.int .i64 d))) := ⟨(Kept.refl (fun k => k = gd) w).setCell (g := gd) (Or.inl (Eq.refl gd)) _ _⟩
      obtain ⟨_, z1, _⟩ := HS.out.cells
      obtain ⟨z0, _⟩ := HS.out.dcell t hlt
      rw [show (D.set t d).getD t (-1) = d from by rw [List.getD_eq_getElem?_getD, List.getElem?_set_self (by rw [HDL.out]; exact hlt)]; rfl] at z0
      have hs : (d != d) = false := by simp
      clear h he e
      -- one way through
      go_enter Try.func49, Try.ntmps49
      go_wp2_with fail
      go_ret
      exact ⟨rfl, HS.out, HB.out⟩
    · by_cases k : D.getD t (-1) = d
      · rw [lead_fit (by rw [HDL.out]; exact hlt) e k]
        rw [k] at y0
        have hs : (d != d) = false := by simp
        have hs2 : (d == -1) = false := by rw [← k]; simpa using e
        clear h he e k
        -- one way through
        go_enter Try.func49, Try.ntmps49
        go_wp2_with fail
        go_ret
        exact ⟨rfl, H.out, Kept.refl _ _⟩
      · rw [lead_flow (by rw [HDL.out]; exact hlt) e k]
        have hs : (D.getD t (-1) != d) = true := by simpa using k
        have hs2 : (D.getD t (-1) == -1) = false := by simpa using e
        generalize D.getD t (-1) = x at y0 hs hs2
        clear h he e k
        -- one way through
        go_enter Try.func49, Try.ntmps49
        go_wp2_with fail
        go_ret
        exact ⟨rfl, H.out, Kept.refl _ _⟩
/-- from a place on -/
def nxtR (D : List Int) (G : List Bool) (i : Nat) : Option Nat := nxtF i (D.drop i) (G.drop i)
set_option maxRecDepth 100000 in
theorem nxtR_zero (D : List Int) (G : List Bool) : nxtR D G 0 = nxt D G := rfl
set_option maxRecDepth 100000 in
theorem nxtR_end {D : List Int} {G : List Bool} {i : Nat} (h : D.length ≤ i) : nxtR D G i = none := by unfold nxtR; rw [List.drop_of_length_le h]; cases G.drop i <;> rfl
set_option maxRecDepth 100000 in
theorem nxtR_step {D : List Int} {G : List Bool} {i : Nat} (h : i < D.length) (k : i < G.length) : nxtR D G i = if G.getD i true = false ∧ D.getD i (-1) ≠ -1 then some i else nxtR D G (i + 1) := by
  unfold nxtR
  rw [List.drop_eq_getElem_cons h, List.drop_eq_getElem_cons k, List.getD_eq_getElem?_getD, List.getD_eq_getElem?_getD, List.getElem?_eq_getElem h, List.getElem?_eq_getElem k]
  rfl
/-- what next answers -/
def nxV (o : Option Nat) : Value := match o with | some p => .tuple #[.int .i64 p, .bool true] | none => .tuple #[.int .i64 0, .bool false]
set_option maxHeartbeats 1000000 in
theorem next_any {base : Nat} {g gd cd gg cg : Nat} {a : Option Addr} {len cap : Nat} {D : List Int} {G : List Bool} (w : World) (h : Wk 91 base w g gd cd gg cg a len cap D G) (hl : len ≤ 1000000) :
    Calls Try.prog 43 #[.pointer (some ⟨g, 0, none⟩)] w fun e w' => e = .returned (nxV (nxt D G)) ∧ w' = w := by
  have H := Bx.mk h
  obtain ⟨x0, x1, x2⟩ := h.cells
  have HDL : Bx (D.length = len) := ⟨h.dl⟩
  have HGL : Bx (G.length = len) := ⟨h.gl⟩
  clear h
  go_enter Try.func43, Try.ntmps43
  go_wp2_with fail
  go_loop [11] (fun i => ∃ m : Nat, m ≤ len ∧ i = .int .i64 m ∧ Bx (nxtR D G m = nxt D G)) (fun i => len - (intOf i).toNat)
  case atStart => exact ⟨0, Nat.zero_le _, rfl, ⟨rfl⟩⟩
  case round =>
    obtain ⟨m, hml, rfl, HN⟩ := hrel
    by_cases hlt : m < len
    · have hkI : (m : Int) < (len : Int) := by omega
      obtain ⟨y0, _⟩ := H.out.dcell m hlt
      obtain ⟨z0, _⟩ := H.out.gcell m hlt
      have HST : Bx (nxt D G = if G.getD m true = false ∧ D.getD m (-1) ≠ -1 then some m else nxtR D G (m + 1)) := ⟨by rw [← HN.out]; exact nxtR_step (by rw [HDL.out]; exact hlt) (by rw [HGL.out]; exact hlt)⟩
      generalize D.getD m (-1) = d at y0 HST
      generalize G.getD m true = q at z0 HST
      by_cases hd : d = -1
      · have HN2 : Bx (nxtR D G (m + 1) = nxt D G) := ⟨by rw [HST.out, if_neg (fun k => k.2 hd)]⟩
        have hs : (d != -1) = false := by simpa using hd
        clear hd
        go_wp2_with fail
        go_round
        case rel => exact ⟨m + 1, by omega, by go_num, HN2⟩
        case measure => simp [intOf]; omega
      · have hs : (d != -1) = true := by simpa using hd
        cases q with
        | true =>
          have HN2 : Bx (nxtR D G (m + 1) = nxt D G) := ⟨by rw [HST.out, if_neg (fun k => by cases k.1)]⟩
          clear hd
          go_wp2_with fail
          go_round
          case rel => exact ⟨m + 1, by omega, by go_num, HN2⟩
          case measure => simp [intOf]; omega
        | false =>
          have HN2 : Bx (nxt D G = some m) := ⟨by rw [HST.out, if_pos ⟨rfl, hd⟩]⟩
          clear hd
          go_wp2_with fail
          go_ret2
          exact ⟨by rw [HN2.out]; rfl, rfl⟩
    · obtain rfl : m = len := by omega
      have hkI : ¬ (m : Int) < (m : Int) := by omega
      have HN2 : Bx (nxt D G = none) := ⟨by rw [← HN.out]; exact nxtR_end (by rw [HDL.out]; exact Nat.le_refl _)⟩
      go_wp2_with fail
      go_ret2
      exact ⟨by rw [HN2.out]; rfl, rfl⟩
end Go.Proofs.Ytckgplemdmgekaa
