/- Bytes behind an own row, and where it lies then. Bytes behind '[]byte(s)'. -/
import Derived.Test.YtpfijaojgeceeaaGreatDoorAuao
import Derived.Test.YtpfijaojgeceeaaGreatDoorAuan
import Derived.Test.YtpfijaojgeceeaaGreatDoorConv
import Derived.Deep.AppendLies
import Derived.ArgAppend
namespace Go.Proofs.YtpfijaojgeceeaaGreatDoor
open Go.RowKit
set_option linter.unusedVariables false

/-- where a row's new place may be -/
def Lies (v v' : Value) (H : Nat) : Prop := ∀ g, v'.ownBlock = some g → v.ownBlock = some g ∨ H ≤ g
set_option maxRecDepth 100000 in
theorem Lies.trans {v v1 v2 : Value} {H H1 : Nat} (h : Lies v v1 H) (k : Lies v1 v2 H1) (hs : H ≤ H1) : Lies v v2 H := fun g hg => by
  rcases k g hg with h1 | h1
  · exact h g h1
  · exact .inr (by omega)
set_option maxRecDepth 100000 in
theorem Kept.of_grown {w w' : World} {v : Value} (h : w.grownBy w' v.ownBlock) : Kept (fun k => v.ownBlock = some k) w w' := ⟨h.os, h.tape, h.output, h.size, fun k hk hn => h.block k hk (fun e => hn e.symm)⟩
set_option maxRecDepth 100000 in
theorem Kept.lies {w w1 w2 : World} {v v1 : Value} (h : Kept (fun k => v.ownBlock = some k) w w1) (k : Kept (fun k => v1.ownBlock = some k) w1 w2) (hl : Lies v v1 w.heap.size) : Kept (fun k => v.ownBlock = some k) w w2 := h.trans k (fun k hk => hl k hk)
set_option maxRecDepth 100000 in
/-- bytes of whatever make behind an own row, and where it lies then -/
theorem wp_append_btsL {o : Oper} {a : Act} {w : World} {K : Act → World → Prop} {Q : Exit → Act → World → Prop} (s x : Operand)
    (ho : o.op = .call { callee := .builtin .append, args := #[s, x], argTypes := #[22, 22] })
    (base n : Nat) (v : Value) (l : List Int) (hs : a.eval s = v) (hown : w.ownsRow base 5 1 v n (bv l))
    (ao : Option Addr) (m c : Nat) (l2 : List Int) (hx : a.eval x = .slice ao m c) (hb : Bts w ao m c l2) (hnm : 0 < n ∨ 0 < m) (h63 : n + m ≤ 140737488355328) (hbase : base ≤ w.heap.size)
    (h : ∀ v' w', w'.ownsRow base 5 1 v' (n + m) (bv (l ++ l2)) → Kept (fun k => v.ownBlock = some k) w w' → Lies v v' w.heap.size → K (a.put o.dst v') w') : o.wp Tryz.prog a w K Q := by
  obtain ⟨i0, hi, hz0, hz1, hz2⟩ := info_parts Tryz.info5
  cases ao with
  | none =>
    have h0 := hb.nil rfl
    have h1 := hb.le_cap
    obtain rfl : c = 0 := h0
    obtain rfl : m = 0 := by omega
    obtain rfl : l2 = [] := List.eq_nil_of_length_eq_zero hb.len_eq
    have hrun := run_append_owned_none (P := Tryz.prog) (w := w) base 22 o.type 5 i0 1 Tryz.underlying22 hi v n (bv l) hown
    unfold Oper.wp
    simp [execOp, ho, resolve, invoke, builtin, hs, hx, hrun, Result.andThen]
    exact h _ _ (by rw [List.append_nil]; exact hown) (Kept.refl _ _) (fun g hg => .inl hg)
  | some ad =>
    have hl := hb.len_eq
    by_cases hm : 0 < m
    · refine wp_append_lies w s x 22 ho base 5 i0 (.int .u8 0) 1 1 Tryz.underlying22 hi hz0 hz1 hz2 rfl (by decide) v n (bv l) hs hown ad m c (bv l2) hx (by rw [bv_length]; omega) hb.cells (bv_one l2) hm (by unfold maxLen; omega) (by omega) hbase _ rfl ?_
      intro g cap w' ho' hg hl' _
      refine h _ w' (by rw [bv_append]; exact ho') (Kept.of_grown hg) (fun k hk => ?_)
      have e : g = k := by simpa [Value.ownBlock] using hk
      rcases hl' with h1 | h1
      · exact .inl (by rw [← e]; exact h1)
      · exact .inr (by omega)
    · obtain rfl : m = 0 := by omega
      obtain rfl : l2 = [] := List.eq_nil_of_length_eq_zero hb.len_eq
      obtain ⟨g, cap, rfl, hg, _⟩ := owns_form hown (by omega)
      have hnc : n ≤ cap := by
        rcases hown.2 with ⟨h1, _⟩ | ⟨g', cap', cur, hv, _, _, hnc, _⟩
        · cases h1
        · cases hv; exact hnc
      have hrun := run_append_room_cells (P := Tryz.prog) w 22 o.type 5 i0 Tryz.underlying22 hi g 0 n cap ad 0 c [] (by simp) (fun j u hj => by simp at hj) (fun u hu => by simp at hu) (by omega) (fun j hj => by simp at hj) (fun j hj => by simp at hj)
      unfold Oper.wp
      simp [execOp, ho, resolve, invoke, builtin, hs, hx, hrun, Result.andThen]
      exact h _ _ (by rw [List.append_nil]; exact hown) (Kept.refl _ _) (fun g hg => .inl hg)
set_option maxRecDepth 100000 in
theorem wpList_append_btsL {ops : Array Oper} {rest : List Oper} {o : Oper} {a : Act} {w : World} {Q : Exit → Act → World → Prop} (hgd : o.guard = none) (s x : Operand)
    (ho : o.op = .call { callee := .builtin .append, args := #[s, x], argTypes := #[22, 22] })
    (base n : Nat) (v : Value) (l : List Int) (hs : a.eval s = v) (hown : w.ownsRow base 5 1 v n (bv l))
    (ao : Option Addr) (m c : Nat) (l2 : List Int) (hx : a.eval x = .slice ao m c) (hb : Bts w ao m c l2) (hnm : 0 < n ∨ 0 < m) (h63 : n + m ≤ 140737488355328) (hbase : base ≤ w.heap.size)
    (h : ∀ v' w', w'.ownsRow base 5 1 v' (n + m) (bv (l ++ l2)) → Kept (fun k => v.ownBlock = some k) w w' → Lies v v' w.heap.size → wpList Tryz.prog ops Q rest (a.put o.dst v') w') : wpList Tryz.prog ops Q (o :: rest) a w :=
  wpList_plain hgd fun K hK => wp_append_btsL s x ho base n v l hs hown ao m c l2 hx hb hnm h63 hbase (fun v' w' h1 h2 h3 => hK _ _ (h v' w' h1 h2 h3))
set_option maxRecDepth 100000 in
theorem step_append_btsL {ops : Array Oper} {o : Oper} {a : Act} {w : World} {K : Act → World → Prop} {Q : Exit → Act → World → Prop} {E : Prop} (hgd : o.guard = none) (s x : Operand)
    (ho : o.op = .call { callee := .builtin .append, args := #[s, x], argTypes := #[22, 22] })
    (base n : Nat) (v : Value) (l : List Int) (hs : a.eval s = v) (hown : w.ownsRow base 5 1 v n (bv l))
    (ao : Option Addr) (m c : Nat) (l2 : List Int) (hx : a.eval x = .slice ao m c) (hb : Bts w ao m c l2) (hnm : 0 < n ∨ 0 < m) (h63 : n + m ≤ 140737488355328) (hbase : base ≤ w.heap.size)
    (h : ∀ v' w', w'.ownsRow base 5 1 v' (n + m) (bv (l ++ l2)) → Kept (fun k => v.ownBlock = some k) w w' → Lies v v' w.heap.size → K (a.put o.dst v') w') :
    if Region.wanted o (yielded ops a.tmps) = true then Oper.wp Tryz.prog o a w K Q else E := by
  have hw : Region.wanted o (yielded ops a.tmps) = true := by simp [Region.wanted, hgd]
  rw [if_pos hw]
  exact wp_append_btsL s x ho base n v l hs hown ao m c l2 hx hb hnm h63 hbase h
/-- bytes that stand apart from a row -/
def Apart (v : Value) (ao : Option Addr) (m : Nat) : Prop := 0 < m → ∀ p, ao = some p → v.ownBlock ≠ some p.block
set_option maxRecDepth 100000 in
theorem Bts.apart {w w' : World} {v : Value} {ao : Option Addr} {m c : Nat} {l : List Int} (h : Bts w ao m c l) (hk : Kept (fun k => v.ownBlock = some k) w w') (ha : Apart v ao m) : Bts w' ao m c l :=
  h.keep (fun hp p e => hk.block _ (h.lt hp e) (fun e2 => ha hp p e e2)) hk.size
set_option maxRecDepth 100000 in
theorem Apart.lies {w : World} {v v' : Value} {ao : Option Addr} {m c : Nat} {l : List Int} (h : Apart v ao m) (hb : Bts w ao m c l) (hl : Lies v v' w.heap.size) : Apart v' ao m := fun hp p e e2 => by
  rcases hl _ e2 with h1 | h1
  · exact h hp p e h1
  · have := hb.lt hp e; omega
set_option maxRecDepth 100000 in
theorem kept_owns {w w' : World} {own : Nat → Prop} {base n : Nat} {v : Value} {xs : List Value} {E : TypeId} {k : Nat} (h : w.ownsRow base E k v n xs) (hk : Kept own w w') (hn : ∀ g, v.ownBlock = some g → ¬ own g) : w'.ownsRow base E k v n xs := by
  refine ⟨h.1, ?_⟩
  rcases h.2 with h2 | ⟨g, cap, cur, hv, hg, hh, r⟩
  · exact .inl h2
  · exact .inr ⟨g, cap, cur, hv, hg, by rw [hk.block g (Array.getElem?_eq_some_iff.1 hh).1 (hn g (by rw [hv]; rfl))]; exact hh, r⟩
end Go.Proofs.YtpfijaojgeceeaaGreatDoor
namespace Go.Proofs.YtpfijaojgeceeaaGreatDoor
open Go.RowKit
set_option linter.unusedVariables false

/-- what '[]byte(s)' made: all of its room may be written -/
structure Cv (w : World) (b n cap : Nat) (l : List Int) : Prop where
  bts : Bts w (some ⟨b, 0, none⟩) n cap l
  room : ∀ j, j < cap → (w.cell? ⟨b, j, none⟩).isSome = true ∧ w.frozen? ⟨b, j, none⟩ = false
  lt : b < w.heap.size
set_option maxRecDepth 100000 in
theorem conv_cv (w : World) (s : ByteArray) (hs : s.size ≤ maxLen) : ∃ c w2, (convert 9 22 (.string s)).run Tryz.prog w = .ok (.slice (some ⟨w.heap.size, 0, none⟩) s.size c) w2 ∧ Below w.heap.size w w2 ∧ Cv w2 w.heap.size s.size c (strL s) := by
  refine ⟨_, _, Lib.run_convert_string_bytes (P := Tryz.prog) w 9 22 5 s Tryz.underlying9 Tryz.underlying22 Tryz.underlying5, bytes_low w _ s, bytes_bts w s hs, fun j hj => ?_, by rw [Lib.bytesWorld_size]; omega⟩
  have hr := Lib.bytesWorld_at_new w 5 s
  have hz : (Lib.bytesCells w 5 s).size = grownCap w s.size 0 5 := by
    have := grownCap_ge w s.size 0 5
    have e : s.data.size = s.size := rfl
    simp [Lib.bytesCells, e]
    omega
  constructor
  · rw [cell_of_row _ w.heap.size j _ _ _ hr, Array.getElem?_eq_getElem (by rw [hz]; exact hj)]; rfl
  · unfold World.frozen?
    rw [hr]
    simp only [Bool.and_eq_false_iff, decide_eq_false_iff_not]
    left; rw [hz]; omega
set_option maxRecDepth 100000 in
theorem run_append_nil (w : World) (t ty e : TypeId) (i : TypeInfo) (ht : Tryz.prog.underlying t = some (.slice e)) (hi : Tryz.prog.info? e = some i) (a : Addr) (n cap : Nat) (hn : n ≤ cap) :
    (Builtin.append_ #[t, t] ty #[.slice (some a) n cap, .slice none 0 0]).run Tryz.prog w = .ok (.slice (some a) n cap) w := by
  simp [Builtin.append_, run_underlying ht, sizeOf, typeInfo, hi, Builtin.lenOf, Builtin.firstCells, storeCells, hn]
set_option maxRecDepth 100000 in
theorem wpList_append_cv {ops : Array Oper} {rest : List Oper} {o : Oper} {a : Act} {Q : Exit → Act → World → Prop} {w0 w : World} {B b n cap : Nat} {l : List Int} (hgd : o.guard = none) (s x : Operand)
    (ho : o.op = .call { callee := .builtin .append, args := #[s, x], argTypes := #[22, 22] }) (hb : Below B w0 w) (hbb : B ≤ b) (hcv : Cv w b n cap l) (hs : a.eval s = .slice (some ⟨b, 0, none⟩) n cap) (h1 : 1 ≤ n)
    (ao : Option Addr) (m c : Nat) (l2 : List Int) (hx : a.eval x = .slice ao m c) (hl2 : Bts w ao m c l2) (hsz : n + m ≤ 1000000)
    (K : ∀ b' c' w', Bts w' (some ⟨b', 0, none⟩) (n + m) c' (l ++ l2) → Below B w0 w' → B ≤ b' → wpList Tryz.prog ops Q rest (a.put o.dst (.slice (some ⟨b', 0, none⟩) (n + m) c')) w') : wpList Tryz.prog ops Q (o :: rest) a w := by
  obtain ⟨i0, hi, hz0, hz1, hz2⟩ := info_parts Tryz.info5
  have hll := hcv.bts.len_eq
  have hml := hl2.len_eq
  have hncap := hcv.bts.le_cap
  cases ao with
  | none =>
    have hc0 := hl2.nil rfl
    have hm0 : m = 0 := by have := hl2.le_cap; omega
    subst hm0
    subst hc0
    obtain rfl : l2 = [] := List.eq_nil_of_length_eq_zero hml
    refine wpList_plain hgd fun K' hK' => ?_
    have hrun := run_append_nil w 22 o.type 5 i0 Tryz.underlying22 hi ⟨b, 0, none⟩ n cap hncap
    unfold Oper.wp
    simp [execOp, ho, resolve, invoke, builtin, hs, hx, hrun, Result.andThen]
    have h9 := K b cap w (by rw [List.append_nil, Nat.add_zero]; exact hcv.bts) hb hbb
    rw [Nat.add_zero] at h9
    exact hK' _ _ h9
  | some ad =>
    refine wpList_append_arg w hgd s x 22 ho 5 i0 (.int .u8 0) 1 1 Tryz.underlying22 hi hz0 hz1 hz2 rfl (by decide) b 0 n cap (bv l) hs (by rw [bv_length]; omega) (fun j u hj => ?_) ad m c (bv l2) hx (by rw [bv_length]; omega) hl2.cells (bv_one l2) (fun hr j hj => ?_) (by unfold maxLen; omega) (by omega) (fun hr => ?_) (fun hr v' w' hown hgr => ?_)
    · have := hcv.bts.cells j u hj
      rw [Addr.add_lit] at this
      exact this
    · rw [bv_length] at hj
      have h9 := hcv.room (n + j) (by omega)
      simpa using h9
    · refine K b cap _ ?_ (below_setCells hb b hbb _ _) hbb
      have hth : w.there b n (bv l2).length := fun j hj => by
        rw [bv_length] at hj
        exact hcv.room (n + j) (by omega)
      refine ⟨by rw [List.length_append]; omega, hcv.bts.byt.append hl2.byt, hr, hcv.bts.cap_le, (fun h => by cases h), fun _ => ⟨b, 0, rfl, by rw [setCells_size]; exact hcv.lt, fun i hi2 => ?_⟩⟩
      simp only [Nat.zero_add, Nat.mul_one]
      by_cases h2 : i < n
      · rw [World.cell?_setCells_out, List.getD_eq_getElem?_getD, List.getElem?_append_left (by omega), ← List.getD_eq_getElem?_getD]
        · obtain ⟨b9, o9, e9, _, hc9⟩ := hcv.bts.spot (by omega)
          cases e9
          have := hc9 i h2
          simpa using this
        · exact fun _ _ => .inl h2
      · have h9 := World.cell?_setCells_in b (bv l2) n w (fun j hj => (hth j hj).1) (i - n) (by rw [bv_length]; omega)
        rw [show n + (i - n) = i from by omega] at h9
        rw [h9, List.getD_eq_getElem?_getD, List.getElem?_append_right (by omega), hll, List.getElem?_eq_getElem (by omega)]
        simp [bv]
    · have hown2 := hown
      rw [← bv_append, show n + m = (l ++ l2).length from by rw [List.length_append]; omega] at hown2
      have hbt := Bts.of_owns hown2 (hcv.bts.byt.append hl2.byt)
      obtain ⟨g', c', hv', hg', _⟩ := owns_form hown (by omega)
      obtain ⟨a9, c9, hv9, hb9⟩ := hbt
      rw [List.length_append, hll, hml] at hv9 hb9
      rw [hv'] at hv9
      cases hv9
      rw [hv']
      exact K g' _ w' hb9 (hb.grown hgr (Nat.le_of_lt (Nat.lt_of_le_of_lt hbb hcv.lt)) (fun k hk => by cases hk)) (Nat.le_trans (Nat.le_of_lt (Nat.lt_of_le_of_lt hbb hcv.lt)) hg')
end Go.Proofs.YtpfijaojgeceeaaGreatDoor
