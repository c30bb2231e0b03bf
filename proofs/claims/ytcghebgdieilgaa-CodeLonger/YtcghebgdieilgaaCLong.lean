/- Instructions behind instructions; their numbers become nought. No walk. -/
import Derived.Test.YtcghebgdieilgaaCFew
import Derived.Test.YtcghebgdieilgaaCodeMore
import Derived.Test.YtcghebgdieilgaaCut
import Derived.Laws.OwnMore
import Derived.Laws.AppendOwnNone
namespace Go.Proofs.Ytcghebgdieilgaa
open Go.RowKit
set_option linter.unusedVariables false

set_option maxRecDepth 100000 in
/-- instructions of whatever make behind an own list -/
theorem wp_append_ics {o : Oper} {a : Act} {w : World} {K : Act → World → Prop} {Q : Exit → Act → World → Prop} (s x : Operand)
    (ho : o.op = .call { callee := .builtin .append, args := #[s, x], argTypes := #[25, 25] })
    (base n : Nat) (v : Value) (l : List Ic) (hs : a.eval s = v) (hown : w.ownsRow base 52 2 v n (l.flatMap icC))
    (ao : Option Addr) (m c : Nat) (l2 : List Ic) (hx : a.eval x = .slice ao m c) (hb : Ics w ao m c l2) (h63 : n + m ≤ 1000000) (hbase : base ≤ w.heap.size)
    (h : ∀ v' w', w'.ownsRow base 52 2 v' (n + m) ((l ++ l2).flatMap icC) → Below base w w' → K (a.put o.dst v') w') : o.wp Try.prog a w K Q := by
  obtain ⟨i0, hi, hz0, hz1, hz2⟩ := info_parts Try.infoN
  cases ao with
  | none =>
    have h0 := hb.nil rfl
    have h1 := hb.le_cap
    obtain rfl : c = 0 := h0
    obtain rfl : m = 0 := by omega
    obtain rfl : l2 = [] := List.eq_nil_of_length_eq_zero hb.len_eq
    have hrun := run_append_owned_none (P := Try.prog) (w := w) base 25 o.type 52 i0 2 Try.underlying25 hi v n (l.flatMap icC) hown
    unfold Oper.wp
    simp [execOp, ho, resolve, invoke, builtin, hs, hx, hrun, Result.andThen]
    exact h _ _ (by rw [List.append_nil]; exact hown) (Below.refl _ _)
  | some ad =>
    have hl := hb.len_eq
    refine wp_append_own w s x 25 ho base 52 i0 (.agg #[.int .i64 0, .int .i64 0]) 2 16 Try.underlying25 hi hz0 hz1 hz2 rfl (by decide) v n (l.flatMap icC) hs hown ad m c (l2.flatMap icC) hx (by rw [flatE_len icC_len, hl]) (hb.cells icC_len rfl) (flatE_one icC_one l2) (by unfold maxLen; omega) (by omega) hbase ?_
    intro v' w' ho' hg _
    exact h v' w' (by rw [List.flatMap_append]; exact ho') ((Below.refl _ _).grown hg hbase (fun k hk => (hown.lt k hk).1))
set_option maxRecDepth 100000 in
theorem wpList_append_ics {ops : Array Oper} {rest : List Oper} {o : Oper} {a : Act} {w : World} {Q : Exit → Act → World → Prop} (hgd : o.guard = none) (s x : Operand)
    (ho : o.op = .call { callee := .builtin .append, args := #[s, x], argTypes := #[25, 25] })
    (base n : Nat) (v : Value) (l : List Ic) (hs : a.eval s = v) (hown : w.ownsRow base 52 2 v n (l.flatMap icC))
    (ao : Option Addr) (m c : Nat) (l2 : List Ic) (hx : a.eval x = .slice ao m c) (hb : Ics w ao m c l2) (h63 : n + m ≤ 1000000) (hbase : base ≤ w.heap.size)
    (h : ∀ v' w', w'.ownsRow base 52 2 v' (n + m) ((l ++ l2).flatMap icC) → Below base w w' → wpList Try.prog ops Q rest (a.put o.dst v') w') : wpList Try.prog ops Q (o :: rest) a w :=
  wpList_plain hgd fun K hK => wp_append_ics s x ho base n v l hs hown ao m c l2 hx hb h63 hbase (fun v' w' h1 h2 => hK _ _ (h v' w' h1 h2))
set_option maxRecDepth 100000 in
theorem flat_take (l : List Ic) (m : Nat) : (l.take m).flatMap icC = (l.flatMap icC).take (m * 2) := by
  induction l generalizing m with
  | nil => simp
  | cons x t ih =>
    cases m with
    | zero => rfl
    | succ m =>
      show icC x ++ (t.take m).flatMap icC = (icC x ++ t.flatMap icC).take ((m + 1) * 2)
      rw [ih m, show (m + 1) * 2 = (icC x).length + m * 2 from by rw [icC_len]; omega, List.take_length_add_append]
set_option maxRecDepth 100000 in
/-- the beginning of an own list -/
theorem own_take {w : World} {base n g cap m : Nat} {l : List Ic} (h : w.ownsRow base 52 2 (.slice (some ⟨g, 0, none⟩) n cap) n (l.flatMap icC)) (hl : l.length = n) (hm : m ≤ n) : w.ownsRow base 52 2 (.slice (some ⟨g, 0, none⟩) m cap) m ((l.take m).flatMap icC) := by
  rcases h.2 with ⟨e, _⟩ | ⟨g', cap', cur, e, hb, hg, hn, hc, hs, ht⟩
  · cases e
  · cases e
    refine ⟨by rw [flatE_len icC_len, List.length_take]; omega, .inr ⟨g, cap, cur, rfl, hb, hg, by omega, hc, hs, ?_⟩⟩
    rw [flat_take, ← ht, List.take_take, show min (m * 2) (n * 2) = m * 2 by omega]
/-- the first numbers are nought -/
def zer (l : List Ic) (i : Nat) : List Ic := (l.take i).map (fun x => ⟨x.o, 0⟩) ++ l.drop i
set_option maxRecDepth 100000 in
theorem zer_len (l : List Ic) (i : Nat) (h : i ≤ l.length) : (zer l i).length = l.length := by unfold zer; rw [List.length_append, List.length_map, List.length_take, List.length_drop]; omega
set_option maxRecDepth 100000 in
theorem zer_at (l : List Ic) (i : Nat) (h : i < l.length) : (zer l i).getD i ic0 = l.getD i ic0 := by
  unfold zer
  rw [List.getD_eq_getElem?_getD, List.getElem?_append_right (by rw [List.length_map, List.length_take]; omega), List.length_map, List.length_take, List.getElem?_drop, show i + (i - min i l.length) = i by omega, ← List.getD_eq_getElem?_getD]
set_option maxRecDepth 100000 in
theorem zer_set (l : List Ic) (i : Nat) (h : i < l.length) : (zer l i).set i ⟨(l.getD i ic0).o, 0⟩ = zer l (i + 1) := by
  unfold zer
  rw [List.set_append_right _ _ (by rw [List.length_map, List.length_take]; omega), List.length_map, List.length_take, show i - min i l.length = 0 by omega, drop_ic l i h, List.set_cons_zero, List.take_succ_eq_append_getElem h, List.map_append, List.append_assoc, List.getD_eq_getElem?_getD, List.getElem?_eq_getElem h]
  rfl
set_option maxRecDepth 100000 in
theorem zer_now (l : List Ic) (i : Nat) (h : i < l.length) : (zer l (i + 1)).getD i ic0 = ⟨(l.getD i ic0).o, 0⟩ := by
  rw [← zer_set l i h, List.getD_eq_getElem?_getD, List.getElem?_set_self (by rw [zer_len l i (by omega)]; exact h)]; rfl
set_option maxRecDepth 100000 in
theorem zer_mem {l : List Ic} (h : ∀ j, j < l.length → isO (l.getD j ic0).o = true) : ∀ x ∈ zer l l.length, isO x.o = true ∧ x.n = 0 := by
  intro x hx
  unfold zer at hx
  rw [List.take_length, List.drop_length, List.append_nil] at hx
  obtain ⟨y, hy, rfl⟩ := List.mem_map.1 hx
  obtain ⟨j, hj, rfl⟩ := List.getElem_of_mem hy
  have := h j hj
  rw [List.getD_eq_getElem?_getD, List.getElem?_eq_getElem hj] at this
  exact ⟨this, rfl⟩
set_option maxRecDepth 100000 in
theorem ics_under : Try.prog.underlying 25 = some (.slice (Try.prog.elem 25)) := by kernel_rfl
set_option maxRecDepth 100000 in
theorem ics_size (w : World) : (Go.sizeOf (Try.prog.elem 25)).run Try.prog w = .ok 2 w := by kernel_rfl
set_option maxRecDepth 100000 in
theorem ics_cut (g len cap q : Nat) (hq : q ≤ cap) (w : World) : (Instr.sliceAt 25 (.slice (some ⟨g, 0, none⟩) len cap) none (some (.int .i64 q)) none).run Try.prog w = .ok (.slice (some ⟨g, 0, none⟩) q cap) w := by
  rw [run_sliceAt_slice w _ _ _ _ _ ics_under, run_slice_h w _ _ len cap ics_under .i64 q (by omega) (by omega), ics_size]
  simp [sliced, Addr.add_lit]
end Go.Proofs.Ytcghebgdieilgaa
