/- Bytes behind an own row, and where it lies then. -/
import Derived.Test.YtipakjenggeflaaGreatDoorPkae
import Derived.Test.YtipakjenggeflaaGreatDoorPkad
import Derived.Test.YtipakjenggeflaaGreatDoorPkai
import Derived.Deep.AppendLies
import Derived.ArgAppend
namespace Go.Proofs.YtipakjenggeflaaGreatDoor
open Go.RowKit
set_option linter.unusedVariables false

/-- where a row's new place may be -/
def Lies (v v' : Value) (H : Nat) : Prop := ∀ g, v'.ownBlock = some g → v.ownBlock = some g ∨ H ≤ g
set_option maxRecDepth 100000 in
theorem Lies.trans {v v1 v2 : Value} {H H1 : Nat} (h : Lies v v1 H) (k : Lies v1 v2 H1) (hs : H ≤ H1) : Lies v v2 H := fun g hg => by
  rcases k g hg with h1 | h1
  · exact h g h1
  · exact .inr (by omega)
set_option maxRecDepth 100000 in
theorem Kept.of_grown {w w' : World} {v : Value} (h : w.grownBy w' v.ownBlock) : Kept (fun k => v.ownBlock = some k) w w' := ⟨h.os, h.tape, h.output, h.size, fun k hk hn => h.block k hk (fun e => hn e.symm)⟩
set_option maxRecDepth 100000 in
theorem Kept.lies {w w1 w2 : World} {v v1 : Value} (h : Kept (fun k => v.ownBlock = some k) w w1) (k : Kept (fun k => v1.ownBlock = some k) w1 w2) (hl : Lies v v1 w.heap.size) : Kept (fun k => v.ownBlock = some k) w w2 := h.trans k (fun k hk => hl k hk)
set_option maxRecDepth 100000 in
/-- bytes of whatever make behind an own row, and where it lies then -/
theorem wp_append_btsL {o : Oper} {a : Act} {w : World} {K : Act → World → Prop} {Q : Exit → Act → World → Prop} (s x : Operand)
    (ho : o.op = .call { callee := .builtin .append, args := #[s, x], argTypes := #[34, 34] })
    (base n : Nat) (v : Value) (l : List Int) (hs : a.eval s = v) (hown : w.ownsRow base 5 1 v n (bv l))
    (ao : Option Addr) (m c : Nat) (l2 : List Int) (hx : a.eval x = .slice ao m c) (hb : Bts w ao m c l2) (hnm : 0 < n ∨ 0 < m) (h63 : n + m ≤ 140737488355328) (hbase : base ≤ w.heap.size)
    (h : ∀ v' w', w'.ownsRow base 5 1 v' (n + m) (bv (l ++ l2)) → Kept (fun k => v.ownBlock = some k) w w' → Lies v v' w.heap.size → K (a.put o.dst v') w') : o.wp Tryz.prog a w K Q := by
  obtain ⟨i0, hi, hz0, hz1, hz2⟩ := info_parts Tryz.info5
  cases ao with
  | none =>
    have h0 := hb.nil rfl
    have h1 := hb.le_cap
    obtain rfl : c = 0 := h0
    obtain rfl : m = 0 := by omega
    obtain rfl : l2 = [] := List.eq_nil_of_length_eq_zero hb.len_eq
    have hrun := run_append_owned_none (P := Tryz.prog) (w := w) base 34 o.type 5 i0 1 Tryz.underlying34 hi v n (bv l) hown
    unfold Oper.wp
    simp [execOp, ho, resolve, invoke, builtin, hs, hx, hrun, Result.andThen]
    exact h _ _ (by rw [List.append_nil]; exact hown) (Kept.refl _ _) (fun g hg => .inl hg)
  | some ad =>
    have hl := hb.len_eq
    by_cases hm : 0 < m
    · refine wp_append_lies w s x 34 ho base 5 i0 (.int .u8 0) 1 1 Tryz.underlying34 hi hz0 hz1 hz2 rfl (by decide) v n (bv l) hs hown ad m c (bv l2) hx (by rw [bv_length]; omega) hb.cells (bv_one l2) hm (by unfold maxLen; omega) (by omega) hbase _ rfl ?_
      intro g cap w' ho' hg hl' _
      refine h _ w' (by rw [bv_append]; exact ho') (Kept.of_grown hg) (fun k hk => ?_)
      have e : g = k := by simpa [Value.ownBlock] using hk
      rcases hl' with h1 | h1
      · exact .inl (by rw [← e]; exact h1)
      · exact .inr (by omega)
    · obtain rfl : m = 0 := by omega
      obtain rfl : l2 = [] := List.eq_nil_of_length_eq_zero hb.len_eq
      obtain ⟨g, cap, rfl, hg, _⟩ := owns_form hown (by omega)
      have hnc : n ≤ cap := by
        rcases hown.2 with ⟨h1, _⟩ | ⟨g', cap', cur, hv, _, _, hnc, _⟩
        · cases h1
        · cases hv; exact hnc
      have hrun := run_append_room_cells (P := Tryz.prog) w 34 o.type 5 i0 Tryz.underlying34 hi g 0 n cap ad 0 c [] (by simp) (fun j u hj => by simp at hj) (fun u hu => by simp at hu) (by omega) (fun j hj => by simp at hj) (fun j hj => by simp at hj)
      unfold Oper.wp
      simp [execOp, ho, resolve, invoke, builtin, hs, hx, hrun, Result.andThen]
      exact h _ _ (by rw [List.append_nil]; exact hown) (Kept.refl _ _) (fun g hg => .inl hg)
set_option maxRecDepth 100000 in
theorem wpList_append_btsL {ops : Array Oper} {rest : List Oper} {o : Oper} {a : Act} {w : World} {Q : Exit → Act → World → Prop} (hgd : o.guard = none) (s x : Operand)
    (ho : o.op = .call { callee := .builtin .append, args := #[s, x], argTypes := #[34, 34] })
    (base n : Nat) (v : Value) (l : List Int) (hs : a.eval s = v) (hown : w.ownsRow base 5 1 v n (bv l))
    (ao : Option Addr) (m c : Nat) (l2 : List Int) (hx : a.eval x = .slice ao m c) (hb : Bts w ao m c l2) (hnm : 0 < n ∨ 0 < m) (h63 : n + m ≤ 140737488355328) (hbase : base ≤ w.heap.size)
    (h : ∀ v' w', w'.ownsRow base 5 1 v' (n + m) (bv (l ++ l2)) → Kept (fun k => v.ownBlock = some k) w w' → Lies v v' w.heap.size → wpList Tryz.prog ops Q rest (a.put o.dst v') w') : wpList Tryz.prog ops Q (o :: rest) a w :=
  wpList_plain hgd fun K hK => wp_append_btsL s x ho base n v l hs hown ao m c l2 hx hb hnm h63 hbase (fun v' w' h1 h2 h3 => hK _ _ (h v' w' h1 h2 h3))
set_option maxRecDepth 100000 in
theorem step_append_btsL {ops : Array Oper} {o : Oper} {a : Act} {w : World} {K : Act → World → Prop} {Q : Exit → Act → World → Prop} {E : Prop} (hgd : o.guard = none) (s x : Operand)
    (ho : o.op = .call { callee := .builtin .append, args := #[s, x], argTypes := #[34, 34] })
    (base n : Nat) (v : Value) (l : List Int) (hs : a.eval s = v) (hown : w.ownsRow base 5 1 v n (bv l))
    (ao : Option Addr) (m c : Nat) (l2 : List Int) (hx : a.eval x = .slice ao m c) (hb : Bts w ao m c l2) (hnm : 0 < n ∨ 0 < m) (h63 : n + m ≤ 140737488355328) (hbase : base ≤ w.heap.size)
    (h : ∀ v' w', w'.ownsRow base 5 1 v' (n + m) (bv (l ++ l2)) → Kept (fun k => v.ownBlock = some k) w w' → Lies v v' w.heap.size → K (a.put o.dst v') w') :
    if Region.wanted o (yielded ops a.tmps) = true then Oper.wp Tryz.prog o a w K Q else E := by
  have hw : Region.wanted o (yielded ops a.tmps) = true := by simp [Region.wanted, hgd]
  rw [if_pos hw]
  exact wp_append_btsL s x ho base n v l hs hown ao m c l2 hx hb hnm h63 hbase h
/-- bytes that stand apart from a row -/
def Apart (v : Value) (ao : Option Addr) (m : Nat) : Prop := 0 < m → ∀ p, ao = some p → v.ownBlock ≠ some p.block
set_option maxRecDepth 100000 in
theorem Bts.apart {w w' : World} {v : Value} {ao : Option Addr} {m c : Nat} {l : List Int} (h : Bts w ao m c l) (hk : Kept (fun k => v.ownBlock = some k) w w') (ha : Apart v ao m) : Bts w' ao m c l :=
  h.keep (fun hp p e => hk.block _ (h.lt hp e) (fun e2 => ha hp p e e2)) hk.size
set_option maxRecDepth 100000 in
theorem Apart.lies {w : World} {v v' : Value} {ao : Option Addr} {m c : Nat} {l : List Int} (h : Apart v ao m) (hb : Bts w ao m c l) (hl : Lies v v' w.heap.size) : Apart v' ao m := fun hp p e e2 => by
  rcases hl _ e2 with h1 | h1
  · exact h hp p e h1
  · have := hb.lt hp e; omega
end Go.Proofs.YtipakjenggeflaaGreatDoor
