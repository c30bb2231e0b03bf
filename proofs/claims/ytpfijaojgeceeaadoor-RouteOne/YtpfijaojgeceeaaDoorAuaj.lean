/- Two new variables. No walk. A new variable of whatever type: so many cells. Bytes of whatever make behind an own row: 'append(b, c...)'. -/
import Derived.Test.YtpfijaojgeceeaaDoorBase
import Derived.Test.YtpfijaojgeceeaaDoorCut
namespace Go.Proofs.YtpfijaojgeceeaaDoor
open Go.RowKit
set_option linter.unusedVariables false

set_option maxRecDepth 100000 in
theorem two_new18 (w : World) (A B : Obj) : ((w.alloc A).alloc B).heap[w.heap.size]? = some A ∧ ((w.alloc A).alloc B).heap[w.heap.size + 1]? = some B ∧ Below w.heap.size w ((w.alloc A).alloc B) := by
  have hb1 : Below w.heap.size w (w.alloc A) := (Below.refl _ _).alloc (Nat.le_refl _) _
  have hs : (w.alloc A).heap.size = w.heap.size + 1 := by simp
  have hb2 : Below (w.alloc A).heap.size (w.alloc A) ((w.alloc A).alloc B) := (Below.refl _ _).alloc (Nat.le_refl _) _
  have h2 := heap_alloc_new (w.alloc A) B
  rw [hs] at h2
  exact ⟨(hb2.block _ (by rw [hs]; omega)).trans (heap_alloc_new w A), h2, bstep hb1 hb2⟩
end Go.Proofs.YtpfijaojgeceeaaDoor
namespace Go.Proofs.YtpfijaojgeceeaaDoor
open Go.RowKit
set_option linter.unusedVariables false

set_option maxRecDepth 100000 in
theorem wp_alloc_of {o : Oper} {a : Act} {w : World} {K : Act → World → Prop} {Q : Exit → Act → World → Prop} (T : TypeId) (sz : Nat) (ho : o.op = .alloc T) (hz : (Tryd.prog.info? T).map (fun i => i.zero.map (·.cells.size)) = some (some sz))
    (h : ∀ cs : Array Value, cs.size = sz → K (a.put o.dst (.pointer (some ⟨w.heap.size, 0, none⟩))) (w.alloc (.cells cs T))) : o.wp Tryd.prog a w K Q := by
  obtain ⟨it, hit, hz0⟩ := Option.map_eq_some_iff.1 hz
  obtain ⟨z, hzz, hzs⟩ := Option.map_eq_some_iff.1 hz0
  unfold Oper.wp execOp
  simp [ho, Instr.alloc, zeroValue, typeInfo, hit, hzz, newVar, newRow, go_sem]
  exact h _ hzs
set_option maxRecDepth 100000 in
theorem wpList_alloc_of {ops : Array Oper} {rest : List Oper} {o : Oper} {a : Act} {w : World} {Q : Exit → Act → World → Prop} (hgd : o.guard = none) (T : TypeId) (sz : Nat) (ho : o.op = .alloc T) (hz : (Tryd.prog.info? T).map (fun i => i.zero.map (·.cells.size)) = some (some sz))
    (h : ∀ cs : Array Value, cs.size = sz → wpList Tryd.prog ops Q rest (a.put o.dst (.pointer (some ⟨w.heap.size, 0, none⟩))) (w.alloc (.cells cs T))) : wpList Tryd.prog ops Q (o :: rest) a w :=
  wpList_plain hgd fun _ hK => wp_alloc_of T sz ho hz (fun cs hs => hK _ _ (h cs hs))
end Go.Proofs.YtpfijaojgeceeaaDoor
namespace Go.Proofs.YtpfijaojgeceeaaDoor
open Go.RowKit
set_option linter.unusedVariables false

set_option maxRecDepth 100000 in
/-- bytes of whatever make behind an own row -/
theorem wp_append_bts {o : Oper} {a : Act} {w : World} {K : Act → World → Prop} {Q : Exit → Act → World → Prop} (s x : Operand)
    (ho : o.op = .call { callee := .builtin .append, args := #[s, x], argTypes := #[22, 22] })
    (base n : Nat) (v : Value) (l : List Int) (hs : a.eval s = v) (hown : w.ownsRow base 5 1 v n (bv l))
    (ao : Option Addr) (m c : Nat) (l2 : List Int) (hx : a.eval x = .slice ao m c) (hb : Bts w ao m c l2) (h63 : n + m ≤ 140737488355328) (hbase : base ≤ w.heap.size)
    (h : ∀ v' w', w'.ownsRow base 5 1 v' (n + m) (bv (l ++ l2)) → Below base w w' → w.grownBy w' v.ownBlock → K (a.put o.dst v') w') : o.wp Tryd.prog a w K Q := by
  obtain ⟨i0, hi, hz0, hz1, hz2⟩ := info_parts Tryd.info5
  cases ao with
  | none =>
    have h0 := hb.nil rfl
    have h1 := hb.le_cap
    obtain rfl : c = 0 := h0
    obtain rfl : m = 0 := by omega
    obtain rfl : l2 = [] := List.eq_nil_of_length_eq_zero hb.len_eq
    have hrun := run_append_owned_none (P := Tryd.prog) (w := w) base 22 o.type 5 i0 1 Tryd.underlying22 hi v n (bv l) hown
    unfold Oper.wp
    simp [execOp, ho, resolve, invoke, builtin, hs, hx, hrun, Result.andThen]
    exact h _ _ (by rw [List.append_nil]; exact hown) (Below.refl _ _) ⟨rfl, rfl, rfl, Nat.le_refl _, fun _ _ _ => rfl⟩
  | some ad =>
    have hl := hb.len_eq
    refine wp_append_own w s x 22 ho base 5 i0 (.int .u8 0) 1 1 Tryd.underlying22 hi hz0 hz1 hz2 rfl (by decide) v n (bv l) hs hown ad m c (bv l2) hx (by rw [bv_length]; omega) hb.cells (bv_one l2) (by unfold maxLen; omega) (by omega) hbase ?_
    intro v' w' ho' hg _
    exact h v' w' (by rw [bv_append]; exact ho') ((Below.refl _ _).grown hg hbase (fun k hk => (hown.lt k hk).1)) hg
set_option maxRecDepth 100000 in
theorem wpList_append_bts {ops : Array Oper} {rest : List Oper} {o : Oper} {a : Act} {w : World} {Q : Exit → Act → World → Prop} (hgd : o.guard = none) (s x : Operand)
    (ho : o.op = .call { callee := .builtin .append, args := #[s, x], argTypes := #[22, 22] })
    (base n : Nat) (v : Value) (l : List Int) (hs : a.eval s = v) (hown : w.ownsRow base 5 1 v n (bv l))
    (ao : Option Addr) (m c : Nat) (l2 : List Int) (hx : a.eval x = .slice ao m c) (hb : Bts w ao m c l2) (h63 : n + m ≤ 140737488355328) (hbase : base ≤ w.heap.size)
    (h : ∀ v' w', w'.ownsRow base 5 1 v' (n + m) (bv (l ++ l2)) → Below base w w' → w.grownBy w' v.ownBlock → wpList Tryd.prog ops Q rest (a.put o.dst v') w') : wpList Tryd.prog ops Q (o :: rest) a w :=
  wpList_plain hgd fun K hK => wp_append_bts s x ho base n v l hs hown ao m c l2 hx hb h63 hbase (fun v' w' h1 h2 h3 => hK _ _ (h v' w' h1 h2 h3))
set_option maxRecDepth 100000 in
theorem step_append_bts {ops : Array Oper} {o : Oper} {a : Act} {w : World} {K : Act → World → Prop} {Q : Exit → Act → World → Prop} {E : Prop} (hgd : o.guard = none) (s x : Operand)
    (ho : o.op = .call { callee := .builtin .append, args := #[s, x], argTypes := #[22, 22] })
    (base n : Nat) (v : Value) (l : List Int) (hs : a.eval s = v) (hown : w.ownsRow base 5 1 v n (bv l))
    (ao : Option Addr) (m c : Nat) (l2 : List Int) (hx : a.eval x = .slice ao m c) (hb : Bts w ao m c l2) (h63 : n + m ≤ 140737488355328) (hbase : base ≤ w.heap.size)
    (h : ∀ v' w', w'.ownsRow base 5 1 v' (n + m) (bv (l ++ l2)) → Below base w w' → w.grownBy w' v.ownBlock → K (a.put o.dst v') w') :
    if Region.wanted o (yielded ops a.tmps) = true then Oper.wp Tryd.prog o a w K Q else E := by
  have hw : Region.wanted o (yielded ops a.tmps) = true := by simp [Region.wanted, hgd]
  rw [if_pos hw]
  exact wp_append_bts s x ho base n v l hs hown ao m c l2 hx hb h63 hbase h
end Go.Proofs.YtpfijaojgeceeaaDoor
