/- The text of changes: bytes behind bytes. -/
import Derived.Test.YtjnjokbdoendkabSst
import Derived.Test.YtjnjokbdoendkabAppBts
import Derived.Test.YtjnjokbdoendkabWalAll
import Derived.Deep.AppendLies
import Derived.ArgAppend
import Derived.Lib.ConvBytes
namespace Go.Proofs.Ytjnjokbdoendkab
open Go.RowKit
set_option linter.unusedVariables false

set_option maxRecDepth 100000 in
theorem strL_getD (s : ByteArray) (j : Nat) (hj : j < s.size) : (strL s).getD j 0 = ((s.data.toList.getD j 0).toNat : Int) := by
  have h : j < s.data.toList.length := by rw [← Lib.size_eq]; exact hj
  simp only [strL, List.getD_eq_getElem?_getD, List.getElem?_map, List.getElem?_eq_getElem h, Option.map_some, Option.getD_some]
set_option maxRecDepth 100000 in
theorem bytes_low (w : World) (e : TypeId) (s : ByteArray) : Below w.heap.size w (Lib.bytesWorld w e s) :=
  ⟨rfl, rfl, rfl, by rw [Lib.bytesWorld_size]; omega, fun k hk => Lib.bytesWorld_at_old w e s k hk⟩
set_option maxRecDepth 100000 in
theorem bytes_bts (w : World) (s : ByteArray) (hs : s.size ≤ maxLen) : Bts (Lib.bytesWorld w 5 s) (some ⟨w.heap.size, 0, none⟩) s.size (grownCap w s.size 0 5) (strL s) := by
  refine ⟨strL_length s, strL_byt s, grownCap_ge _ _ _ _, grownCap_le_maxLen _ _ _ _ hs, (fun hh => by cases hh), fun _ => ⟨w.heap.size, 0, rfl, by rw [Lib.bytesWorld_size]; omega, fun i hi => ?_⟩⟩
  rw [Nat.zero_add, Lib.bytesWorld_cell w 5 s i hi, strL_getD s i hi]
set_option maxRecDepth 100000 in
/-- '[]byte(s)': new memory -/
theorem conv_bytes (w : World) (s : ByteArray) (hs : s.size ≤ maxLen) : ∃ c w2, (convert 9 41 (.string s)).run Try.prog w = .ok (.slice (some ⟨w.heap.size, 0, none⟩) s.size c) w2 ∧ Below w.heap.size w w2 ∧ Bts w2 (some ⟨w.heap.size, 0, none⟩) s.size c (strL s) :=
  ⟨_, _, Lib.run_convert_string_bytes (P := Try.prog) w 9 41 5 s Try.underlying9 Try.underlying41 Try.underlying5, bytes_low w _ s, bytes_bts w s hs⟩
/-- where a row's new place may be -/
def Lies (v v' : Value) (H : Nat) : Prop := ∀ g, v'.ownBlock = some g → v.ownBlock = some g ∨ H ≤ g
set_option maxRecDepth 100000 in
theorem Lies.trans {v v1 v2 : Value} {H H1 : Nat} (h : Lies v v1 H) (k : Lies v1 v2 H1) (hs : H ≤ H1) : Lies v v2 H := fun g hg => by
  rcases k g hg with h1 | h1
  · exact h g h1
  · exact .inr (by omega)
set_option maxRecDepth 100000 in
theorem Kept.of_grown {w w' : World} {v : Value} (h : w.grownBy w' v.ownBlock) : Kept (fun k => v.ownBlock = some k) w w' := ⟨h.os, h.tape, h.output, h.size, fun k hk hn => h.block k hk (fun e => hn e.symm)⟩
set_option maxRecDepth 100000 in
theorem Kept.lies {w w1 w2 : World} {v v1 : Value} (h : Kept (fun k => v.ownBlock = some k) w w1) (k : Kept (fun k => v1.ownBlock = some k) w1 w2) (hl : Lies v v1 w.heap.size) : Kept (fun k => v.ownBlock = some k) w w2 := h.trans k (fun k hk => hl k hk)
set_option maxRecDepth 100000 in
/-- bytes of whatever make behind an own row, and where it lies then -/
theorem wp_append_btsL {o : Oper} {a : Act} {w : World} {K : Act → World → Prop} {Q : Exit → Act → World → Prop} (s x : Operand)
    (ho : o.op = .call { callee := .builtin .append, args := #[s, x], argTypes := #[41, 41] })
    (base n : Nat) (v : Value) (l : List Int) (hs : a.eval s = v) (hown : w.ownsRow base 5 1 v n (bv l))
    (ao : Option Addr) (m c : Nat) (l2 : List Int) (hx : a.eval x = .slice ao m c) (hb : Bts w ao m c l2) (hnm : 0 < n ∨ 0 < m) (h63 : n + m ≤ 140737488355328) (hbase : base ≤ w.heap.size)
    (h : ∀ v' w', w'.ownsRow base 5 1 v' (n + m) (bv (l ++ l2)) → Kept (fun k => v.ownBlock = some k) w w' → Lies v v' w.heap.size → K (a.put o.dst v') w') : o.wp Try.prog a w K Q := by
  obtain ⟨i0, hi, hz0, hz1, hz2⟩ := info_parts Try.info5
  cases ao with
  | none =>
    have h0 := hb.nil rfl
    have h1 := hb.le_cap
    obtain rfl : c = 0 := h0
    obtain rfl : m = 0 := by omega
    obtain rfl : l2 = [] := List.eq_nil_of_length_eq_zero hb.len_eq
    have hrun := run_append_owned_none (P := Try.prog) (w := w) base 41 o.type 5 i0 1 Try.underlying41 hi v n (bv l) hown
    unfold Oper.wp
    simp [execOp, ho, resolve, invoke, builtin, hs, hx, hrun, Result.andThen]
    exact h _ _ (by rw [List.append_nil]; exact hown) (Kept.refl _ _) (fun g hg => .inl hg)
  | some ad =>
    have hl := hb.len_eq
    by_cases hm : 0 < m
    · refine wp_append_lies w s x 41 ho base 5 i0 (.int .u8 0) 1 1 Try.underlying41 hi hz0 hz1 hz2 rfl (by decide) v n (bv l) hs hown ad m c (bv l2) hx (by rw [bv_length]; omega) hb.cells (bv_one l2) hm (by unfold maxLen; omega) (by omega) hbase _ rfl ?_
      intro g cap w' ho' hg hl' _
      refine h _ w' (by rw [bv_append]; exact ho') (Kept.of_grown hg) (fun k hk => ?_)
      have e : g = k := by simpa [Value.ownBlock] using hk
      rcases hl' with h1 | h1
      · exact .inl (by rw [← e]; exact h1)
      · exact .inr (by omega)
    · obtain rfl : m = 0 := by omega
      obtain rfl : l2 = [] := List.eq_nil_of_length_eq_zero hb.len_eq
      obtain ⟨g, cap, rfl, hg, _⟩ := owns_form hown (by omega)
      have hnc : n ≤ cap := by
        rcases hown.2 with ⟨h1, _⟩ | ⟨g', cap', cur, hv, _, _, hnc, _⟩
        · cases h1
        · cases hv; exact hnc
      have hrun := run_append_room_cells (P := Try.prog) w 41 o.type 5 i0 Try.underlying41 hi g 0 n cap ad 0 c [] (by simp) (fun j u hj => by simp at hj) (fun u hu => by simp at hu) (by omega) (fun j hj => by simp at hj) (fun j hj => by simp at hj)
      unfold Oper.wp
      simp [execOp, ho, resolve, invoke, builtin, hs, hx, hrun, Result.andThen]
      exact h _ _ (by rw [List.append_nil]; exact hown) (Kept.refl _ _) (fun g hg => .inl hg)
set_option maxRecDepth 100000 in
theorem wpList_append_btsL {ops : Array Oper} {rest : List Oper} {o : Oper} {a : Act} {w : World} {Q : Exit → Act → World → Prop} (hgd : o.guard = none) (s x : Operand)
    (ho : o.op = .call { callee := .builtin .append, args := #[s, x], argTypes := #[41, 41] })
    (base n : Nat) (v : Value) (l : List Int) (hs : a.eval s = v) (hown : w.ownsRow base 5 1 v n (bv l))
    (ao : Option Addr) (m c : Nat) (l2 : List Int) (hx : a.eval x = .slice ao m c) (hb : Bts w ao m c l2) (hnm : 0 < n ∨ 0 < m) (h63 : n + m ≤ 140737488355328) (hbase : base ≤ w.heap.size)
    (h : ∀ v' w', w'.ownsRow base 5 1 v' (n + m) (bv (l ++ l2)) → Kept (fun k => v.ownBlock = some k) w w' → Lies v v' w.heap.size → wpList Try.prog ops Q rest (a.put o.dst v') w') : wpList Try.prog ops Q (o :: rest) a w :=
  wpList_plain hgd fun K hK => wp_append_btsL s x ho base n v l hs hown ao m c l2 hx hb hnm h63 hbase (fun v' w' h1 h2 h3 => hK _ _ (h v' w' h1 h2 h3))
set_option maxRecDepth 100000 in
theorem step_append_btsL {ops : Array Oper} {o : Oper} {a : Act} {w : World} {K : Act → World → Prop} {Q : Exit → Act → World → Prop} {E : Prop} (hgd : o.guard = none) (s x : Operand)
    (ho : o.op = .call { callee := .builtin .append, args := #[s, x], argTypes := #[41, 41] })
    (base n : Nat) (v : Value) (l : List Int) (hs : a.eval s = v) (hown : w.ownsRow base 5 1 v n (bv l))
    (ao : Option Addr) (m c : Nat) (l2 : List Int) (hx : a.eval x = .slice ao m c) (hb : Bts w ao m c l2) (hnm : 0 < n ∨ 0 < m) (h63 : n + m ≤ 140737488355328) (hbase : base ≤ w.heap.size)
    (h : ∀ v' w', w'.ownsRow base 5 1 v' (n + m) (bv (l ++ l2)) → Kept (fun k => v.ownBlock = some k) w w' → Lies v v' w.heap.size → K (a.put o.dst v') w') :
    if Region.wanted o (yielded ops a.tmps) = true then Oper.wp Try.prog o a w K Q else E := by
  have hw : Region.wanted o (yielded ops a.tmps) = true := by simp [Region.wanted, hgd]
  rw [if_pos hw]
  exact wp_append_btsL s x ho base n v l hs hown ao m c l2 hx hb hnm h63 hbase h
/-- bytes that stand apart from a row -/
def Apart (v : Value) (ao : Option Addr) (m : Nat) : Prop := 0 < m → ∀ p, ao = some p → v.ownBlock ≠ some p.block
set_option maxRecDepth 100000 in
theorem Bts.apart {w w' : World} {v : Value} {ao : Option Addr} {m c : Nat} {l : List Int} (h : Bts w ao m c l) (hk : Kept (fun k => v.ownBlock = some k) w w') (ha : Apart v ao m) : Bts w' ao m c l :=
  h.keep (fun hp p e => hk.block _ (h.lt hp e) (fun e2 => ha hp p e e2)) hk.size
set_option maxRecDepth 100000 in
theorem Apart.lies {w : World} {v v' : Value} {ao : Option Addr} {m c : Nat} {l : List Int} (h : Apart v ao m) (hb : Bts w ao m c l) (hl : Lies v v' w.heap.size) : Apart v' ao m := fun hp p e e2 => by
  rcases hl _ e2 with h1 | h1
  · exact h hp p e h1
  · have := hb.lt hp e; omega
set_option maxRecDepth 100000 in
theorem kept_owns {w w' : World} {own : Nat → Prop} {base n : Nat} {v : Value} {xs : List Value} {E : TypeId} {k : Nat} (h : w.ownsRow base E k v n xs) (hk : Kept own w w') (hn : ∀ g, v.ownBlock = some g → ¬ own g) : w'.ownsRow base E k v n xs := by
  refine ⟨h.1, ?_⟩
  rcases h.2 with h2 | ⟨g, cap, cur, hv, hg, hh, r⟩
  · exact .inl h2
  · exact .inr ⟨g, cap, cur, hv, hg, by rw [hk.block g (Array.getElem?_eq_some_iff.1 hh).1 (hn g (by rw [hv]; rfl))]; exact hh, r⟩
set_option maxRecDepth 100000 in
set_option maxHeartbeats 1000000 in
theorem putbytes_any (base n : Nat) (v : Value) (l : List Int) (ao : Option Addr) (m c : Nat) (l2 : List Int) (w : World) (hown : w.ownsRow base 5 1 v n (bv l)) (hbt : Bts w ao m c l2) (hap : Apart v ao m) (hbase : base ≤ w.heap.size) (h63 : n + m ≤ 70368744177664) :
    Calls Try.prog 68 #[v, .slice ao m c] w fun e w' => ∃ v', e = .returned v' ∧ w'.ownsRow base 5 1 v' (n + ((varL m).length + m)) (bv (l ++ (varL m ++ l2))) ∧ Kept (fun k => v.ownBlock = some k) w w' ∧ Lies v v' w.heap.size := by
  obtain ⟨a0, n0, c0, rfl⟩ : ∃ a0 n0 c0, v = .slice a0 n0 c0 := by
    rcases hown.2 with ⟨rfl, _⟩ | ⟨g, cap, cur, rfl, _⟩
    · exact ⟨_, _, _, rfl⟩
    · exact ⟨_, _, _, rfl⟩
  have HO : Bx (w.ownsRow base 5 1 (.slice a0 n0 c0) n (bv l)) := ⟨hown⟩
  have HB : Bx (Bts w ao m c l2) := ⟨hbt⟩
  have HA : Bx (Apart (.slice a0 n0 c0) ao m) := ⟨hap⟩
  have hvl := (varL_length m)
  have hvb : Bx (Byt (varL m)) := ⟨varL_byt m (by omega) (by omega)⟩
  clear hown hbt hap
  have gm : (m : Int) % 18446744073709551616 = m := by omega
  go_enter Try.func68, Try.ntmps68
  go_wp2_with fail
  refine (var_any (m : Int) _ (by omega) (by omega)).mono ?_
  rintro e w1 ⟨v1, rfl, hown1, hb1⟩
  obtain ⟨a1, c1, rfl, hm1⟩ := Bts.of_owns hown1 hvb.out
  have hs1 := hb1.size
  have HAP1 : Bx (Apart (.slice a0 n0 c0) a1 (varL m).length) := ⟨fun hp p e e2 => by
    have h1 := own_ge hown1 p e
    have h2 := (HO.out.lt _ e2).2
    omega⟩
  have HO1 : Bx (w1.ownsRow base 5 1 (.slice a0 n0 c0) n (bv l)) := ⟨owns_below HO.out hb1⟩
  have HB1 : Bx (Bts w1 ao m c l2) := ⟨HB.out.below hb1⟩
  obtain ⟨P, HPP⟩ : ∃ P, Bx (varL m = P) := ⟨_, ⟨rfl⟩⟩
  obtain ⟨pl, HPL⟩ : ∃ pl, Bx (P.length = pl) := ⟨_, ⟨rfl⟩⟩
  rw [HPP.out, HPL.out] at hvl hm1 HAP1
  rw [HPP.out, HPL.out] at hown1
  rw [HPP.out, HPL.out]
  have HM1 : Bx (Bts w1 a1 pl c1 P) := ⟨hm1⟩
  have HBL : Bx (Below w.heap.size w w1) := ⟨hb1⟩
  clear hown1 hm1 hb1 HO HB hvb
  go_wp2_with (at_builtin; refine wpList_append_btsL rfl (.tmp 5) (.tmp 9) rfl base n _ l rfl HO1.out a1 pl c1 P rfl HM1.out (.inr (by omega)) (by omega) (by omega) ?_)
  intro v2 w2 hown2 hk2 hl2
  have HB2 : Bx (Bts w2 ao m c l2) := ⟨HB1.out.apart hk2 HA.out⟩
  have HA2 : Bx (Apart v2 ao m) := ⟨HA.out.lies HB1.out hl2⟩
  have hs2 := hk2.size
  obtain ⟨a2, n2, c2, rfl⟩ : ∃ a2 n2 c2, v2 = .slice a2 n2 c2 := by
    rcases hown2.2 with ⟨rfl, _⟩ | ⟨g, cap, cur, rfl, _⟩
    · exact ⟨_, _, _, rfl⟩
    · exact ⟨_, _, _, rfl⟩
  have HO2 : Bx (w2.ownsRow base 5 1 (.slice a2 n2 c2) (n + pl) (bv (l ++ P))) := ⟨hown2⟩
  have HK2 : Bx (Kept (fun k => (Value.slice a0 n0 c0).ownBlock = some k) w w2) := ⟨(Kept.of_below HBL.out).trans' hk2⟩
  have HL2 : Bx (Lies (.slice a0 n0 c0) (.slice a2 n2 c2) w.heap.size) := ⟨fun g hg => by
    rcases hl2 g hg with h1 | h1
    · exact .inl h1
    · exact .inr (by omega)⟩
  clear hown2 hk2 hl2
  go_wp2_with (at_builtin; refine wpList_append_btsL rfl (.tmp 10) (.tmp 11) rfl base (n + pl) _ (l ++ P) rfl HO2.out ao m c l2 rfl HB2.out (.inl (by omega)) (by omega) (by omega) ?_)
  intro v3 w3 hown3 hk3 hl3
  obtain ⟨a3, n3, c3, rfl⟩ : ∃ a3 n3 c3, v3 = .slice a3 n3 c3 := by
    rcases hown3.2 with ⟨rfl, _⟩ | ⟨g, cap, cur, rfl, _⟩
    · exact ⟨_, _, _, rfl⟩
    · exact ⟨_, _, _, rfl⟩
  have R : Bx (w3.ownsRow base 5 1 (.slice a3 n3 c3) (n + (pl + m)) (bv (l ++ (P ++ l2))) ∧ Kept (fun k => (Value.slice a0 n0 c0).ownBlock = some k) w w3 ∧ Lies (.slice a0 n0 c0) (.slice a3 n3 c3) w.heap.size) := by
    refine ⟨?_, HK2.out.lies hk3 HL2.out, HL2.out.trans hl3 (by omega)⟩
    rw [← Nat.add_assoc]; exact hown3
  clear hown3 hk3 hl3
  go_wp2_with fail
  go_ret
  refine ⟨_, rfl, ?_⟩
  rw [HPP.out, HPL.out]
  exact R.out
end Go.Proofs.Ytjnjokbdoendkab
