/- Steps behind one another in a list. -/
import Derived.Test.YtpbdgacdbhabhaaVLaw
import Derived.Deep.CutRange
namespace Go.Proofs.Ytpbdgacdbhabhaa
open Go.RowKit
set_option linter.unusedVariables false

/-- the cells of what an operation comes to -/
def stN (L : List Ic) (c : Cl) : List Value := ((stpV L [c.s0, c.s1, c.s2, c.s3] c.k c.g (fuC c)).1 :: ((stpV L [c.s0, c.s1, c.s2, c.s3] c.k c.g (fuC c)).2.1 ++ [(stpV L [c.s0, c.s1, c.s2, c.s3] c.k c.g (fuC c)).2.2.1, (stpV L [c.s0, c.s1, c.s2, c.s3] c.k c.g (fuC c)).2.2.2])).map (Value.int .i64)
set_option maxRecDepth 100000 in
theorem stN_form {L : List Ic} (hok : (thr L).2.2 = 0) (c : Cl) : ∃ kd z0 z1 z2 z3 rt us, stN L c = [.int .i64 kd, .int .i64 z0, .int .i64 z1, .int .i64 z2, .int .i64 z3, .int .i64 rt, .int .i64 us] ∧ stC (stpV L [c.s0, c.s1, c.s2, c.s3] c.k c.g (fuC c)) = .agg #[.int .i64 kd, .int .i64 z0, .int .i64 z1, .int .i64 z2, .int .i64 z3, .int .i64 rt, .int .i64 us] := by
  obtain ⟨kd, z0, z1, z2, z3, rt, us, h⟩ := stpV_form hok c.s0 c.s1 c.s2 c.s3 c.k c.g (fuC c)
  exact ⟨kd, z0, z1, z2, z3, rt, us, by unfold stN; rw [h]; rfl, by rw [h]; rfl⟩
set_option maxRecDepth 100000 in
theorem stN_len {L : List Ic} (hok : (thr L).2.2 = 0) (c : Cl) : (stN L c).length = 7 := by
  obtain ⟨kd, z0, z1, z2, z3, rt, us, h, _⟩ := stN_form hok c
  rw [h]; rfl
set_option maxRecDepth 100000 in
theorem stN_one {L : List Ic} (c : Cl) : ∀ u ∈ stN L c, u.oneCell' = true := by
  intro u hu
  unfold stN at hu
  obtain ⟨x, _, rfl⟩ := List.mem_map.1 hu
  rfl
set_option maxRecDepth 100000 in
theorem Try.infoSt : (Try.prog.info? 38).map (fun i => (i.zero, i.size, i.bytes)) = some (some (.agg #[.int .i64 0, .int .i64 0, .int .i64 0, .int .i64 0, .int .i64 0, .int .i64 0, .int .i64 0]), 7, 56) := by kernel_rfl
set_option maxRecDepth 100000 in
theorem wp_append_st {L : List Ic} (hok : (thr L).2.2 = 0) {o : Oper} {a : Act} {w : World} {K : Act → World → Prop} {Q : Exit → Act → World → Prop} (s x : Operand)
    (ho : o.op = .call { callee := .builtin .append, args := #[s, x], argTypes := #[47, 47] })
    (base n : Nat) (v : Value) (F : List Cl) (hs : a.eval s = v) (hown : w.ownsRow base 38 7 v n (F.flatMap (stN L)))
    (ad : Addr) (c : Cl) (hx : a.eval x = .slice (some ad) 1 1) (hnews : ∀ j u, (stN L c)[j]? = some u → w.cell? (ad.add j) = some u) (hn : n ≤ 1000) (hbase : base ≤ w.heap.size)
    (h : ∀ v' w', w'.ownsRow base 38 7 v' (n + 1) ((F ++ [c]).flatMap (stN L)) → w.grownBy w' v.ownBlock → K (a.put o.dst v') w') : o.wp Try.prog a w K Q := by
  obtain ⟨i0, hi, hz0, hz1, hz2⟩ := info_parts Try.infoSt
  refine wp_append_own w s x 47 ho base 38 i0 (.agg #[.int .i64 0, .int .i64 0, .int .i64 0, .int .i64 0, .int .i64 0, .int .i64 0, .int .i64 0]) 7 56 Try.underlying47 hi hz0 hz1 hz2 rfl (by decide) v n (F.flatMap (stN L)) hs hown ad 1 1 (stN L c) hx (by rw [stN_len hok]) hnews (stN_one c) (by unfold maxLen; omega) (by omega) hbase ?_
  intro v' w' ho' hg _
  exact h v' w' (by rw [List.flatMap_append]; simpa using ho') hg
set_option maxRecDepth 100000 in
/-- one of the operations that came in -/
theorem Ls.cl {w : World} {ao : Option Addr} {len cap : Nat} {C : List Cl} (h : Ls clC 7 w ao len cap C) (i : Nat) (hi : i < len) : ∃ b off, ao = some ⟨b, off, none⟩ ∧ b < w.heap.size ∧ w.cell? ⟨b, off + i * 7, none⟩ = some (.int .i64 (C.getD i cl0).s0) ∧ w.cell? ⟨b, off + i * 7 + 1, none⟩ = some (.int .i64 (C.getD i cl0).s1) ∧ w.cell? ⟨b, off + i * 7 + 2, none⟩ = some (.int .i64 (C.getD i cl0).s2) ∧ w.cell? ⟨b, off + i * 7 + 3, none⟩ = some (.int .i64 (C.getD i cl0).s3) ∧ w.cell? ⟨b, off + i * 7 + 4, none⟩ = some (.int .i64 (C.getD i cl0).k) ∧ w.cell? ⟨b, off + i * 7 + 5, none⟩ = some (.int .i64 (C.getD i cl0).f) ∧ w.cell? ⟨b, off + i * 7 + 6, none⟩ = some (.int .i64 (C.getD i cl0).g) := by
  obtain ⟨b, off, e, hlt, hc⟩ := h.spot (by omega)
  have hi2 : i < C.length := by rw [h.len_eq]; exact hi
  have e1 : C.getD i cl0 = C[i] := by rw [List.getD_eq_getElem?_getD, List.getElem?_eq_getElem hi2]; rfl
  rw [e1]
  exact ⟨b, off, e, hlt, hc i hi2 0 (by decide), hc i hi2 1 (by decide), hc i hi2 2 (by decide), hc i hi2 3 (by decide), hc i hi2 4 (by decide), hc i hi2 5 (by decide), hc i hi2 6 (by decide)⟩
set_option maxRecDepth 100000 in
/-- what one of them came to, as it lies in the list -/
theorem Ls.st {L : List Ic} {w : World} {ao : Option Addr} {len cap : Nat} {C : List Cl} (h : Ls (stN L) 7 w ao len cap C) (i : Nat) (hi : i < len) {kd z0 z1 z2 z3 rt us : Int} (hs : stN L (C.getD i cl0) = [.int .i64 kd, .int .i64 z0, .int .i64 z1, .int .i64 z2, .int .i64 z3, .int .i64 rt, .int .i64 us]) {b off : Nat} (ha : ao = some ⟨b, off, none⟩) : w.cell? ⟨b, off + i * 7, none⟩ = some (.int .i64 kd) ∧ w.cell? ⟨b, off + i * 7 + 1, none⟩ = some (.int .i64 z0) ∧ w.cell? ⟨b, off + i * 7 + 2, none⟩ = some (.int .i64 z1) ∧ w.cell? ⟨b, off + i * 7 + 3, none⟩ = some (.int .i64 z2) ∧ w.cell? ⟨b, off + i * 7 + 4, none⟩ = some (.int .i64 z3) ∧ w.cell? ⟨b, off + i * 7 + 5, none⟩ = some (.int .i64 rt) ∧ w.cell? ⟨b, off + i * 7 + 6, none⟩ = some (.int .i64 us) := by
  obtain ⟨b', off', e, hlt, hc⟩ := h.spot (by omega)
  rw [ha] at e
  cases e
  have hi2 : i < C.length := by rw [h.len_eq]; exact hi
  have e1 : C.getD i cl0 = C[i] := by rw [List.getD_eq_getElem?_getD, List.getElem?_eq_getElem hi2]; rfl
  rw [e1] at hs
  have hc2 := fun j hj => (hc i hi2 j hj).trans (by rw [hs])
  exact ⟨hc2 0 (by decide), hc2 1 (by decide), hc2 2 (by decide), hc2 3 (by decide), hc2 4 (by decide), hc2 5 (by decide), hc2 6 (by decide)⟩
set_option maxRecDepth 100000 in
theorem take_cl (C : List Cl) (m : Nat) (h : m < C.length) : C.take (m + 1) = C.take m ++ [C.getD m cl0] := by
  rw [List.take_add_one, List.getElem?_eq_getElem h, List.getD_eq_getElem?_getD, List.getElem?_eq_getElem h]; rfl
set_option maxRecDepth 100000 in
theorem getD_cl {C : List Cl} {P : Cl → Prop} (h : ∀ c ∈ C, P c) (m : Nat) (hm : m < C.length) : P (C.getD m cl0) := by
  rw [List.getD_eq_getElem?_getD, List.getElem?_eq_getElem hm]; exact h _ (List.getElem_mem hm)
end Go.Proofs.Ytpbdgacdbhabhaa
