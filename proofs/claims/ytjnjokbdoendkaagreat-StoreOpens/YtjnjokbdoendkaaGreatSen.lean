/- The text of changes: bytes behind bytes. The text of a change, the program's. Encode, the program's. -/
import Derived.Test.YtjnjokbdoendkaaGreatSst
import Derived.Test.YtjnjokbdoendkaaGreatAppBts
import Derived.Test.YtjnjokbdoendkaaGreatSwt
import Derived.Deep.AppendLies
import Derived.ArgAppend
import Derived.Lib.ConvBytes
namespace Go.Proofs.YtjnjokbdoendkaaGreat
open Go.RowKit
set_option linter.unusedVariables false

set_option maxRecDepth 100000 in
theorem strL_getD (s : ByteArray) (j : Nat) (hj : j < s.size) : (strL s).getD j 0 = ((s.data.toList.getD j 0).toNat : Int) := by
  have h : j < s.data.toList.length := by rw [← Lib.size_eq]; exact hj
  simp only [strL, List.getD_eq_getElem?_getD, List.getElem?_map, List.getElem?_eq_getElem h, Option.map_some, Option.getD_some]
set_option maxRecDepth 100000 in
theorem bytes_low (w : World) (e : TypeId) (s : ByteArray) : Below w.heap.size w (Lib.bytesWorld w e s) :=
  ⟨rfl, rfl, rfl, by rw [Lib.bytesWorld_size]; omega, fun k hk => Lib.bytesWorld_at_old w e s k hk⟩
set_option maxRecDepth 100000 in
theorem bytes_bts (w : World) (s : ByteArray) (hs : s.size ≤ maxLen) : Bts (Lib.bytesWorld w 5 s) (some ⟨w.heap.size, 0, none⟩) s.size (grownCap w s.size 0 5) (strL s) := by
  refine ⟨strL_length s, strL_byt s, grownCap_ge _ _ _ _, grownCap_le_maxLen _ _ _ _ hs, (fun hh => by cases hh), fun _ => ⟨w.heap.size, 0, rfl, by rw [Lib.bytesWorld_size]; omega, fun i hi => ?_⟩⟩
  rw [Nat.zero_add, Lib.bytesWorld_cell w 5 s i hi, strL_getD s i hi]
set_option maxRecDepth 100000 in
/-- '[]byte(s)': new memory -/
theorem conv_bytes (w : World) (s : ByteArray) (hs : s.size ≤ maxLen) : ∃ c w2, (convert 9 46 (.string s)).run Tryz.prog w = .ok (.slice (some ⟨w.heap.size, 0, none⟩) s.size c) w2 ∧ Below w.heap.size w w2 ∧ Bts w2 (some ⟨w.heap.size, 0, none⟩) s.size c (strL s) :=
  ⟨_, _, Lib.run_convert_string_bytes (P := Tryz.prog) w 9 46 5 s Tryz.underlying9 Tryz.underlying46 Tryz.underlying5, bytes_low w _ s, bytes_bts w s hs⟩
/-- where a row's new place may be -/
def Lies (v v' : Value) (H : Nat) : Prop := ∀ g, v'.ownBlock = some g → v.ownBlock = some g ∨ H ≤ g
set_option maxRecDepth 100000 in
theorem Lies.trans {v v1 v2 : Value} {H H1 : Nat} (h : Lies v v1 H) (k : Lies v1 v2 H1) (hs : H ≤ H1) : Lies v v2 H := fun g hg => by
  rcases k g hg with h1 | h1
  · exact h g h1
  · exact .inr (by omega)
set_option maxRecDepth 100000 in
theorem Kept.of_grown {w w' : World} {v : Value} (h : w.grownBy w' v.ownBlock) : Kept (fun k => v.ownBlock = some k) w w' := ⟨h.os, h.tape, h.output, h.size, fun k hk hn => h.block k hk (fun e => hn e.symm)⟩
set_option maxRecDepth 100000 in
theorem Kept.lies {w w1 w2 : World} {v v1 : Value} (h : Kept (fun k => v.ownBlock = some k) w w1) (k : Kept (fun k => v1.ownBlock = some k) w1 w2) (hl : Lies v v1 w.heap.size) : Kept (fun k => v.ownBlock = some k) w w2 := h.trans k (fun k hk => hl k hk)
set_option maxRecDepth 100000 in
/-- bytes of whatever make behind an own row, and where it lies then -/
theorem wp_append_btsL {o : Oper} {a : Act} {w : World} {K : Act → World → Prop} {Q : Exit → Act → World → Prop} (s x : Operand)
    (ho : o.op = .call { callee := .builtin .append, args := #[s, x], argTypes := #[46, 46] })
    (base n : Nat) (v : Value) (l : List Int) (hs : a.eval s = v) (hown : w.ownsRow base 5 1 v n (bv l))
    (ao : Option Addr) (m c : Nat) (l2 : List Int) (hx : a.eval x = .slice ao m c) (hb : Bts w ao m c l2) (hnm : 0 < n ∨ 0 < m) (h63 : n + m ≤ 140737488355328) (hbase : base ≤ w.heap.size)
    (h : ∀ v' w', w'.ownsRow base 5 1 v' (n + m) (bv (l ++ l2)) → Kept (fun k => v.ownBlock = some k) w w' → Lies v v' w.heap.size → K (a.put o.dst v') w') : o.wp Tryz.prog a w K Q := by
  obtain ⟨i0, hi, hz0, hz1, hz2⟩ := info_parts Tryz.info5
  cases ao with
  | none =>
    have h0 := hb.nil rfl
    have h1 := hb.le_cap
    obtain rfl : c = 0 := h0
    obtain rfl : m = 0 := by omega
    obtain rfl : l2 = [] := List.eq_nil_of_length_eq_zero hb.len_eq
    have hrun := run_append_owned_none (P := Tryz.prog) (w := w) base 46 o.type 5 i0 1 Tryz.underlying46 hi v n (bv l) hown
    unfold Oper.wp
    simp [execOp, ho, resolve, invoke, builtin, hs, hx, hrun, Result.andThen]
    exact h _ _ (by rw [List.append_nil]; exact hown) (Kept.refl _ _) (fun g hg => .inl hg)
  | some ad =>
    have hl := hb.len_eq
    by_cases hm : 0 < m
    · refine wp_append_lies w s x 46 ho base 5 i0 (.int .u8 0) 1 1 Tryz.underlying46 hi hz0 hz1 hz2 rfl (by decide) v n (bv l) hs hown ad m c (bv l2) hx (by rw [bv_length]; omega) hb.cells (bv_one l2) hm (by unfold maxLen; omega) (by omega) hbase _ rfl ?_
      intro g cap w' ho' hg hl' _
      refine h _ w' (by rw [bv_append]; exact ho') (Kept.of_grown hg) (fun k hk => ?_)
      have e : g = k := by simpa [Value.ownBlock] using hk
      rcases hl' with h1 | h1
      · exact .inl (by rw [← e]; exact h1)
      · exact .inr (by omega)
    · obtain rfl : m = 0 := by omega
      obtain rfl : l2 = [] := List.eq_nil_of_length_eq_zero hb.len_eq
      obtain ⟨g, cap, rfl, hg, _⟩ := owns_form hown (by omega)
      have hnc : n ≤ cap := by
        rcases hown.2 with ⟨h1, _⟩ | ⟨g', cap', cur, hv, _, _, hnc, _⟩
        · cases h1
        · cases hv; exact hnc
      have hrun := run_append_room_cells (P := Tryz.prog) w 46 o.type 5 i0 Tryz.underlying46 hi g 0 n cap ad 0 c [] (by simp) (fun j u hj => by simp at hj) (fun u hu => by simp at hu) (by omega) (fun j hj => by simp at hj) (fun j hj => by simp at hj)
      unfold Oper.wp
      simp [execOp, ho, resolve, invoke, builtin, hs, hx, hrun, Result.andThen]
      exact h _ _ (by rw [List.append_nil]; exact hown) (Kept.refl _ _) (fun g hg => .inl hg)
set_option maxRecDepth 100000 in
theorem wpList_append_btsL {ops : Array Oper} {rest : List Oper} {o : Oper} {a : Act} {w : World} {Q : Exit → Act → World → Prop} (hgd : o.guard = none) (s x : Operand)
    (ho : o.op = .call { callee := .builtin .append, args := #[s, x], argTypes := #[46, 46] })
    (base n : Nat) (v : Value) (l : List Int) (hs : a.eval s = v) (hown : w.ownsRow base 5 1 v n (bv l))
    (ao : Option Addr) (m c : Nat) (l2 : List Int) (hx : a.eval x = .slice ao m c) (hb : Bts w ao m c l2) (hnm : 0 < n ∨ 0 < m) (h63 : n + m ≤ 140737488355328) (hbase : base ≤ w.heap.size)
    (h : ∀ v' w', w'.ownsRow base 5 1 v' (n + m) (bv (l ++ l2)) → Kept (fun k => v.ownBlock = some k) w w' → Lies v v' w.heap.size → wpList Tryz.prog ops Q rest (a.put o.dst v') w') : wpList Tryz.prog ops Q (o :: rest) a w :=
  wpList_plain hgd fun K hK => wp_append_btsL s x ho base n v l hs hown ao m c l2 hx hb hnm h63 hbase (fun v' w' h1 h2 h3 => hK _ _ (h v' w' h1 h2 h3))
set_option maxRecDepth 100000 in
theorem step_append_btsL {ops : Array Oper} {o : Oper} {a : Act} {w : World} {K : Act → World → Prop} {Q : Exit → Act → World → Prop} {E : Prop} (hgd : o.guard = none) (s x : Operand)
    (ho : o.op = .call { callee := .builtin .append, args := #[s, x], argTypes := #[46, 46] })
    (base n : Nat) (v : Value) (l : List Int) (hs : a.eval s = v) (hown : w.ownsRow base 5 1 v n (bv l))
    (ao : Option Addr) (m c : Nat) (l2 : List Int) (hx : a.eval x = .slice ao m c) (hb : Bts w ao m c l2) (hnm : 0 < n ∨ 0 < m) (h63 : n + m ≤ 140737488355328) (hbase : base ≤ w.heap.size)
    (h : ∀ v' w', w'.ownsRow base 5 1 v' (n + m) (bv (l ++ l2)) → Kept (fun k => v.ownBlock = some k) w w' → Lies v v' w.heap.size → K (a.put o.dst v') w') :
    if Region.wanted o (yielded ops a.tmps) = true then Oper.wp Tryz.prog o a w K Q else E := by
  have hw : Region.wanted o (yielded ops a.tmps) = true := by simp [Region.wanted, hgd]
  rw [if_pos hw]
  exact wp_append_btsL s x ho base n v l hs hown ao m c l2 hx hb hnm h63 hbase h
/-- bytes that stand apart from a row -/
def Apart (v : Value) (ao : Option Addr) (m : Nat) : Prop := 0 < m → ∀ p, ao = some p → v.ownBlock ≠ some p.block
set_option maxRecDepth 100000 in
theorem Bts.apart {w w' : World} {v : Value} {ao : Option Addr} {m c : Nat} {l : List Int} (h : Bts w ao m c l) (hk : Kept (fun k => v.ownBlock = some k) w w') (ha : Apart v ao m) : Bts w' ao m c l :=
  h.keep (fun hp p e => hk.block _ (h.lt hp e) (fun e2 => ha hp p e e2)) hk.size
set_option maxRecDepth 100000 in
theorem Apart.lies {w : World} {v v' : Value} {ao : Option Addr} {m c : Nat} {l : List Int} (h : Apart v ao m) (hb : Bts w ao m c l) (hl : Lies v v' w.heap.size) : Apart v' ao m := fun hp p e e2 => by
  rcases hl _ e2 with h1 | h1
  · exact h hp p e h1
  · have := hb.lt hp e; omega
set_option maxRecDepth 100000 in
set_option maxHeartbeats 1000000 in
theorem putbytes_any (base n : Nat) (v : Value) (l : List Int) (ao : Option Addr) (m c : Nat) (l2 : List Int) (w : World) (hown : w.ownsRow base 5 1 v n (bv l)) (hbt : Bts w ao m c l2) (hap : Apart v ao m) (hbase : base ≤ w.heap.size) (h63 : n + m ≤ 70368744177664) :
    Calls Tryz.prog 105 #[v, .slice ao m c] w fun e w' => ∃ v', e = .returned v' ∧ w'.ownsRow base 5 1 v' (n + ((varL m).length + m)) (bv (l ++ (varL m ++ l2))) ∧ Kept (fun k => v.ownBlock = some k) w w' ∧ Lies v v' w.heap.size := by
  obtain ⟨a0, n0, c0, rfl⟩ : ∃ a0 n0 c0, v = .slice a0 n0 c0 := by
    rcases hown.2 with ⟨rfl, _⟩ | ⟨g, cap, cur, rfl, _⟩
    · exact ⟨_, _, _, rfl⟩
    · exact ⟨_, _, _, rfl⟩
  have HO : Bx (w.ownsRow base 5 1 (.slice a0 n0 c0) n (bv l)) := ⟨hown⟩
  have HB : Bx (Bts w ao m c l2) := ⟨hbt⟩
  have HA : Bx (Apart (.slice a0 n0 c0) ao m) := ⟨hap⟩
  have hvl := (varL_length m)
  have hvb : Bx (Byt (varL m)) := ⟨varL_byt m (by omega) (by omega)⟩
  clear hown hbt hap
  have gm : (m : Int) % 18446744073709551616 = m := by omega
  go_enter Tryz.func105, Tryz.ntmps105
  go_wp2_with fail
  refine (var_any (m : Int) _ (by omega) (by omega)).mono ?_
  rintro e w1 ⟨v1, rfl, hown1, hb1⟩
  obtain ⟨a1, c1, rfl, hm1⟩ := Bts.of_owns hown1 hvb.out
  have hs1 := hb1.size
  have HAP1 : Bx (Apart (.slice a0 n0 c0) a1 (varL m).length) := ⟨fun hp p e e2 => by
    have h1 := own_ge hown1 p e
    have h2 := (HO.out.lt _ e2).2
    omega⟩
  have HO1 : Bx (w1.ownsRow base 5 1 (.slice a0 n0 c0) n (bv l)) := ⟨owns_below HO.out hb1⟩
  have HB1 : Bx (Bts w1 ao m c l2) := ⟨HB.out.below hb1⟩
  obtain ⟨P, HPP⟩ : ∃ P, Bx (varL m = P) := ⟨_, ⟨rfl⟩⟩
  obtain ⟨pl, HPL⟩ : ∃ pl, Bx (P.length = pl) := ⟨_, ⟨rfl⟩⟩
  rw [HPP.out, HPL.out] at hvl hm1 HAP1
  rw [HPP.out, HPL.out] at hown1
  rw [HPP.out, HPL.out]
  have HM1 : Bx (Bts w1 a1 pl c1 P) := ⟨hm1⟩
  have HBL : Bx (Below w.heap.size w w1) := ⟨hb1⟩
  clear hown1 hm1 hb1 HO HB hvb
  go_wp2_with (at_builtin; refine wpList_append_btsL rfl (.tmp 5) (.tmp 9) rfl base n _ l rfl HO1.out a1 pl c1 P rfl HM1.out (.inr (by omega)) (by omega) (by omega) ?_)
  intro v2 w2 hown2 hk2 hl2
  have HB2 : Bx (Bts w2 ao m c l2) := ⟨HB1.out.apart hk2 HA.out⟩
  have HA2 : Bx (Apart v2 ao m) := ⟨HA.out.lies HB1.out hl2⟩
  have hs2 := hk2.size
  obtain ⟨a2, n2, c2, rfl⟩ : ∃ a2 n2 c2, v2 = .slice a2 n2 c2 := by
    rcases hown2.2 with ⟨rfl, _⟩ | ⟨g, cap, cur, rfl, _⟩
    · exact ⟨_, _, _, rfl⟩
    · exact ⟨_, _, _, rfl⟩
  have HO2 : Bx (w2.ownsRow base 5 1 (.slice a2 n2 c2) (n + pl) (bv (l ++ P))) := ⟨hown2⟩
  have HK2 : Bx (Kept (fun k => (Value.slice a0 n0 c0).ownBlock = some k) w w2) := ⟨(Kept.of_below HBL.out).trans' hk2⟩
  have HL2 : Bx (Lies (.slice a0 n0 c0) (.slice a2 n2 c2) w.heap.size) := ⟨fun g hg => by
    rcases hl2 g hg with h1 | h1
    · exact .inl h1
    · exact .inr (by omega)⟩
  clear hown2 hk2 hl2
  go_wp2_with (at_builtin; refine wpList_append_btsL rfl (.tmp 10) (.tmp 11) rfl base (n + pl) _ (l ++ P) rfl HO2.out ao m c l2 rfl HB2.out (.inl (by omega)) (by omega) (by omega) ?_)
  intro v3 w3 hown3 hk3 hl3
  obtain ⟨a3, n3, c3, rfl⟩ : ∃ a3 n3 c3, v3 = .slice a3 n3 c3 := by
    rcases hown3.2 with ⟨rfl, _⟩ | ⟨g, cap, cur, rfl, _⟩
    · exact ⟨_, _, _, rfl⟩
    · exact ⟨_, _, _, rfl⟩
  have R : Bx (w3.ownsRow base 5 1 (.slice a3 n3 c3) (n + (pl + m)) (bv (l ++ (P ++ l2))) ∧ Kept (fun k => (Value.slice a0 n0 c0).ownBlock = some k) w w3 ∧ Lies (.slice a0 n0 c0) (.slice a3 n3 c3) w.heap.size) := by
    refine ⟨?_, HK2.out.lies hk3 HL2.out, HL2.out.trans hl3 (by omega)⟩
    rw [← Nat.add_assoc]; exact hown3
  clear hown3 hk3 hl3
  go_wp2_with fail
  go_ret
  refine ⟨_, rfl, ?_⟩
  rw [HPP.out, HPL.out]
  exact R.out
end Go.Proofs.YtjnjokbdoendkaaGreat
namespace Go.Proofs.YtjnjokbdoendkaaGreat
open Go.RowKit
set_option linter.unusedVariables false

set_option maxRecDepth 100000 in
theorem bts_one (w : World) (x : Int) (hx : 0 ≤ x ∧ x ≤ 255) : Bts (w.alloc (.cells #[.int .u8 x] 5)) (some ⟨w.heap.size, 0, none⟩) 1 1 [x] :=
  ⟨rfl, fun c hc => by simp at hc; rw [hc]; exact hx, Nat.le_refl _, by unfold maxLen; omega, (fun hh => by cases hh), fun _ => ⟨w.heap.size, 0, rfl, by simp, fun i hi => by
    obtain rfl : i = 0 := by omega
    simp⟩⟩
/-- a row that grows, beside the change in its variable -/
structure PCs (base : Nat) (w0 wk : World) (bx : Nat) (cs : Array Value) (V : Value) (n : Nat) (l : List Int) : Prop where
  low : Below base w0 wk
  box : wk.heap[bx]? = some (.cells cs 48 (0, 0))
  own : wk.ownsRow base 5 1 V n (bv l)
  ne : V.ownBlock ≠ some bx
  bs : base ≤ wk.heap.size
section
variable {base : Nat} {w0 wk w' : World} {bx : Nat} {cs : Array Value} {V V' : Value} {n n' : Nat} {l l' : List Int}
set_option maxRecDepth 100000 in
theorem PCs.below (h : PCs base w0 wk bx cs V n l) (hb : Below wk.heap.size wk w') : PCs base w0 w' bx cs V n l :=
  ⟨h.low.trans (hb.mono h.bs), (hb.block bx (Array.getElem?_eq_some_iff.1 h.box).1).trans h.box, owns_below h.own hb, h.ne, Nat.le_trans h.bs hb.size⟩
set_option maxRecDepth 100000 in
theorem PCs.app (h : PCs base w0 wk bx cs V n l) (hk : Kept (fun k => V.ownBlock = some k) wk w') (hl : Lies V V' wk.heap.size) (ho : w'.ownsRow base 5 1 V' n' (bv l')) : PCs base w0 w' bx cs V' n' l' :=
  ⟨h.low.trans (hk.low (fun k hk => (h.own.lt k hk).1) h.bs), (hk.block bx (Array.getElem?_eq_some_iff.1 h.box).1 h.ne).trans h.box, ho, fun e => by
    rcases hl _ e with h1 | h1
    · exact h.ne h1
    · have := (Array.getElem?_eq_some_iff.1 h.box).1; omega, Nat.le_trans h.bs hk.size⟩
set_option maxRecDepth 100000 in
theorem PCs.s {key : ByteArray} {d : Bool} {ai : Option Addr} {ni ci : Nat} (h : PCs base w0 wk bx #[.string key, .bool d, .slice ai ni ci] V n l) : wk.cell? ⟨bx, 0, none⟩ = some (.string key) ∧ wk.cell? ⟨bx, 2, none⟩ = some (.slice ai ni ci) :=
  ⟨by rw [cell_of_row wk bx 0 _ _ (0, 0) h.box]; rfl, by rw [cell_of_row wk bx 2 _ _ (0, 0) h.box]; rfl⟩
set_option maxRecDepth 100000 in
theorem PCs.new (h : PCs base w0 wk bx cs V n l) {m : Nat} : Apart V (some ⟨wk.heap.size, 0, none⟩) m := fun _ p e e2 => by
  have h1 := (h.own.lt _ e2).2
  cases e
  exact absurd h1 (Nat.lt_irrefl _)
end
set_option maxRecDepth 100000 in
theorem own_form {w : World} {base n k : Nat} {E : TypeId} {v : Value} {xs : List Value} (h : w.ownsRow base E k v n xs) : ∃ a0 n0 c0, v = .slice a0 n0 c0 := by
  rcases h.2 with ⟨rfl, _⟩ | ⟨g, cap, cur, rfl, _⟩
  · exact ⟨_, _, _, rfl⟩
  · exact ⟨_, _, _, rfl⟩
set_option maxRecDepth 100000 in
set_option maxHeartbeats 2000000 in
theorem putchange_any (base n : Nat) (V : Value) (l : List Int) (key : ByteArray) (del : Bool) (val : List Int) (ai : Option Addr) (ni ci : Nat) (w : World) (hown : w.ownsRow base 5 1 V n (bv l)) (hbt : Bts w ai ni ci val) (hlo : 0 < ni → ∀ p, ai = some p → p.block < base) (hbase : base ≤ w.heap.size) (h63 : n ≤ 1099511627776) (hni : ni ≤ 1099511627776) (hks : key.size ≤ 1099511627776) :
    Calls Tryz.prog 74 #[V, .agg #[.string key, .bool del, .slice ai ni ci]] w fun e w' => ∃ v', e = .returned v' ∧ w'.ownsRow base 5 1 v' (n + (chgL ⟨key, del, val⟩).length) (bv (l ++ chgL ⟨key, del, val⟩)) ∧ Below base w w' := by
  obtain ⟨a0, n0, c0, rfl⟩ : ∃ a0 n0 c0, V = .slice a0 n0 c0 := by
    rcases hown.2 with ⟨rfl, _⟩ | ⟨g, cap, cur, rfl, _⟩
    · exact ⟨_, _, _, rfl⟩
    · exact ⟨_, _, _, rfl⟩
  obtain ⟨bx, hbx⟩ : ∃ bx, bx = w.heap.size := ⟨_, rfl⟩
  have HP0 : Bx (∀ d2, d2 = del → PCs base w (w.alloc (.cells #[.string key, .bool d2, .slice ai ni ci] 48)).drew w.heap.size #[.string key, .bool d2, .slice ai ni ci] (.slice a0 n0 c0) n l) := ⟨fun d2 _ => ⟨((Below.refl _ _).alloc hbase _).drew, heap_alloc_new w _, hown.alloc _, fun e => by have := (hown.lt _ e).2; omega, by simp; omega⟩⟩
  have HV : Bx (∀ W, Below base w W → Bts W ai ni ci val ∧ ∀ v, (∀ g, v.ownBlock = some g → base ≤ g) → Apart v ai ni) := ⟨fun W hW => ⟨hbt.keep (fun hp p e => hW.block _ (hlo hp p e)) hW.size, fun v hv hp p e e2 => by have h1 := hv _ e2; have h2 := hlo hp p e; omega⟩⟩
  have hks2 : key.size ≤ maxLen := by unfold maxLen; omega
  have hvk := (varL_length key.size).2
  have hvl := hbt.len_eq
  obtain ⟨hks3, hks⟩ : key.size ≤ 1099511627776 ∧ key.size ≤ maxLen := ⟨hks, hks2⟩
  clear hks2
  generalize hVV : Value.slice a0 n0 c0 = V at HP0 ⊢
  cases del with
  | true =>
    have HR : Bx (chgL ⟨key, true, val⟩ = 1 :: (varL key.size ++ strL key)) := ⟨by simp [chgL]⟩
    have HP := Bx.mk (HP0.out true rfl)
    clear hown hbt hlo HP0
    subst hVV
    go_enter Tryz.func74, Tryz.ntmps74
    go_wp2_with fail
    rw [← hbx] at HP ⊢
    have hk := HP.out.s
    generalize w.alloc (.cells #[.string key, .bool true, .slice ai ni ci] 48) = w0 at hk HP ⊢
    generalize Value.slice a0 n0 c0 = V at HP ⊢
    clear hbx
    refine wp_region_held_drew (S := fun W => W.cell? ⟨bx, 0, none⟩ = some (.string key) ∧ W.cell? ⟨bx, 2, none⟩ = some (.slice ai ni ci)) (by kernel_rfl) hk (fun _ => ?_)
    generalize hwk : w0.drew = wk at hk HP ⊢
    clear hwk
    refine wpAnyH_take (i := 0) (oi := ⟨some 7, .move (.tmp 0), 46, "store.go:89", #[], none⟩) (v := ?vpch21) rfl (by kernel_rfl) (by kernel_rfl) (by kernel_rfl) (fun _ _ _ h => h) (Or.inl ⟨by rfl, ?ypch21⟩) hk ?rpch21
    case ypch21 => (intro w hSw; (try dsimp only at hSw); go_simp; first | done | with_reducible rfl)
    simp only [Act.put, List.setIfInBounds_toArray, List.set_cons_zero, List.set_cons_succ]
    refine wpAnyH_take (i := 3) (oi := ⟨some 10, .fieldAddr 48 (.tmp 3) 0, 0, "store.go:89", #[], none⟩) (v := ?vpch22) rfl (by kernel_rfl) (by kernel_rfl) (by kernel_rfl) (fun _ _ _ h => h) (Or.inl ⟨by rfl, ?ypch22⟩) hk ?rpch22
    case ypch22 => (intro w hSw; (try dsimp only at hSw); go_simp; first | done | with_reducible rfl)
    simp only [Act.put, List.setIfInBounds_toArray, List.set_cons_zero, List.set_cons_succ]
    refine wpAnyH_take (i := 4) (oi := ⟨some 11, .load 9 (.tmp 10), 9, "store.go:89", #[⟨3, .data⟩], none⟩) (v := ?vpch23) rfl (by kernel_rfl) (by kernel_rfl) (by kernel_rfl) (fun _ _ _ h => h) (Or.inl ⟨by rfl, ?ypch23⟩) hk ?rpch23
    case ypch23 => (intro w hSw; have hcw := hSw.1; clear hSw; go_simp; first | done | with_reducible rfl)
    simp only [Act.put, List.setIfInBounds_toArray, List.set_cons_zero, List.set_cons_succ]
    refine wpAnyH_ready (rs := [1, 5]) (by decide +kernel) (by simp) ?_
    refine (AllReadyH.cons (o := ⟨some 8, .buildSlice 46 1 #[(0, .const (Value.int IntKind.u8 1))], 46, "store.go:89", #[], none⟩) rfl (fun K hK => ?_) (AllReadyH.cons (o := ⟨some 12, .convert 9 46 (.tmp 11), 46, "store.go:89", #[⟨4, .data⟩], none⟩) rfl (fun K hK => ?_) AllReadyH.nil))
    · go_simp
      have hbA : Below wk.heap.size wk (wk.alloc (.cells #[.int .u8 1] 5)) := (Below.refl _ _).alloc (Nat.le_refl _) _
      have HN : Bx (Bts (wk.alloc (.cells #[.int .u8 1] 5)) (some ⟨wk.heap.size, 0, none⟩) 1 1 [1]) := ⟨bts_one wk _ (by decide)⟩
      replace HP : Bx (PCs base w (wk.alloc (.cells #[.int .u8 1] 5)) bx #[.string key, .bool true, .slice ai ni ci] V n l) := ⟨HP.out.below hbA⟩
      try replace HM : Bx (Bts (wk.alloc (.cells #[.int .u8 1] 5)) (some ⟨G2, 0, none⟩) key.size cm (strL key) ∧ Apart V (some ⟨G2, 0, none⟩) key.size) := ⟨HM.out.1.below hbA, HM.out.2⟩
      clear hbA hk
      generalize wk.heap.size = G at HN ⊢
      first | generalize wk.alloc (.cells #[.int .u8 1] 5) = wk at HN HP HM ⊢ | generalize wk.alloc (.cells #[.int .u8 1] 5) = wk at HN HP ⊢
      have hk := HP.out.s
      refine hK.out _ _ hk (fun _ => ?_)
      clear hK K
      try simp only [Act.put, List.setIfInBounds_toArray, List.set_cons_zero, List.set_cons_succ]
      refine wpAnyH_ready (rs := [2, 5]) (by decide +kernel) (by simp) ?_
      refine (AllReadyH.cons (o := ⟨some 9, .call { callee := .builtin Builtin.append, args := #[.tmp 7, .tmp 8], argTypes := #[46, 46] }, 46, "store.go:89", #[⟨0, .data⟩, ⟨1, .data⟩], none⟩) rfl (fun K hK => ?_) (AllReadyH.cons (o := ⟨some 12, .convert 9 46 (.tmp 11), 46, "store.go:89", #[⟨4, .data⟩], none⟩) rfl (fun K hK => ?_) AllReadyH.nil))
      · refine step_append_btsL rfl (.tmp 7) (.tmp 8) rfl base n _ l rfl HP.out.own (some ⟨G, 0, none⟩) 1 1 [1] rfl HN.out (.inr (by omega)) (by omega) HP.out.bs ?_
        intro v6 w6 hown6 hk6 hl6
        replace HP : Bx (PCs base w w6 bx #[.string key, .bool true, .slice ai ni ci] v6 (n + 1) (l ++ [1])) := ⟨HP.out.app hk6 hl6 hown6⟩
        try replace HM : Bx (Bts w6 (some ⟨G2, 0, none⟩) key.size cm (strL key) ∧ Apart v6 (some ⟨G2, 0, none⟩) key.size) := ⟨HM.out.1.apart hk6 HM.out.2, HM.out.2.lies HM.out.1 hl6⟩
        clear hown6 hk6 hl6 HN hk
        obtain ⟨wk, hwk⟩ : ∃ x, x = w6 := ⟨_, rfl⟩
        subst hwk
        obtain ⟨V, hVV⟩ : ∃ x, x = v6 := ⟨_, rfl⟩
        subst hVV
        have hk := HP.out.s
        refine hK.out _ _ hk (fun _ => ?_)
        clear hK K
        try simp only [Act.put, List.setIfInBounds_toArray, List.set_cons_zero, List.set_cons_succ]
        refine wpAnyH_ready (rs := [5]) (by decide +kernel) (by simp) ?_
        refine AllReadyH.cons (o := ⟨some 12, .convert 9 46 (.tmp 11), 46, "store.go:89", #[⟨4, .data⟩], none⟩) rfl (fun K hK => ?_) AllReadyH.nil
        rw [if_pos (by rfl)]
        obtain ⟨cm, wv, hcv, hbv, hbm⟩ := conv_bytes wk key hks
        go_simp
        have HM : Bx (Bts wv (some ⟨wk.heap.size, 0, none⟩) key.size cm (strL key) ∧ Apart (_) (some ⟨wk.heap.size, 0, none⟩) key.size) := ⟨hbm, HP.out.new⟩
        replace HP := Bx.mk (HP.out.below hbv)
        try replace HN := Bx.mk (HN.out.below hbv)
        clear hcv hbv hbm hk
        generalize wk.heap.size = G2 at HM ⊢
        obtain ⟨wk, hwk⟩ : ∃ x, x = wv := ⟨_, rfl⟩
        subst hwk
        have hk := HP.out.s
        refine hK.out _ _ hk (fun _ => ?_)
        clear hK K
        try simp only [Act.put, List.setIfInBounds_toArray, List.set_cons_zero, List.set_cons_succ]
        refine wpAnyH_ready (rs := [6]) (by decide +kernel) (by simp) ?_
        refine AllReadyH.cons (o := ⟨some 13, .call { callee := .value (.func 105), args := #[.tmp 9, .tmp 12], argTypes := #[46, 46] }, 46, "store.go:89", #[⟨2, .data⟩, ⟨5, .data⟩, ⟨2, .chain⟩], none⟩) rfl (fun K hK => ?_) AllReadyH.nil
        go_simp
        refine (putbytes_any base _ _ _ _ _ _ (strL key) _ HP.out.own HM.out.1 HM.out.2 HP.out.bs (by omega)).mono ?_
        rintro e7 w7 ⟨v7, rfl, hown7, hk7, hl7⟩
        replace HP := Bx.mk (HP.out.app hk7 hl7 hown7)
        clear hown7 hk7 hl7 HM hk
        have hk := HP.out.s
        refine hK.out _ _ hk (fun _ => ?_)
        clear hK K
        try simp only [Act.put, List.setIfInBounds_toArray, List.set_cons_zero, List.set_cons_succ]
        refine wpAnyH_take (i := 7) (oi := ⟨some 4, .assign (.tmp 13), 46, "store.go:89", #[⟨6, .data⟩, ⟨6, .chain⟩, ⟨0, .phase⟩, ⟨1, .phase⟩, ⟨2, .phase⟩, ⟨3, .phase⟩, ⟨4, .phase⟩, ⟨5, .phase⟩, ⟨6, .phase⟩], none⟩) (v := ?vpch25) rfl (by kernel_rfl) (by kernel_rfl) (by kernel_rfl) (fun _ _ _ h => h) (Or.inl ⟨by rfl, ?ypch25⟩) hk ?rpch25
        case ypch25 => (intro w hSw; (try dsimp only at hSw); go_simp; first | done | with_reducible rfl)
        simp only [Act.put, List.setIfInBounds_toArray, List.set_cons_zero, List.set_cons_succ]
        refine wpAnyH_done (by decide +kernel) ?_ _
        have hfin : w7.ownsRow base 5 1 v7 (n + (chgL ⟨key, true, val⟩).length) (bv (l ++ chgL ⟨key, true, val⟩)) := by
          have e1 : n + (chgL ⟨key, true, val⟩).length = n + 1 + ((varL key.size).length + key.size) := by rw [HR.out, List.length_cons, List.length_append, strL_length]; omega
          have e2 : l ++ chgL ⟨key, true, val⟩ = l ++ [1] ++ (varL key.size ++ strL key) := by rw [HR.out]; simp
          rw [e1, e2]; exact HP.out.own
        have hlow := HP.out.low
        obtain ⟨a9, n9, c9, rfl⟩ := own_form HP.out.own
        clear HP hk
        go_wp2_with fail
        go_ret
        exact ⟨_, rfl, hfin, hlow⟩
      · rw [if_pos (by rfl)]
        obtain ⟨cm, wv, hcv, hbv, hbm⟩ := conv_bytes wk key hks
        go_simp
        have HM : Bx (Bts wv (some ⟨wk.heap.size, 0, none⟩) key.size cm (strL key) ∧ Apart (_) (some ⟨wk.heap.size, 0, none⟩) key.size) := ⟨hbm, HP.out.new⟩
        replace HP := Bx.mk (HP.out.below hbv)
        try replace HN := Bx.mk (HN.out.below hbv)
        clear hcv hbv hbm hk
        generalize wk.heap.size = G2 at HM ⊢
        obtain ⟨wk, hwk⟩ : ∃ x, x = wv := ⟨_, rfl⟩
        subst hwk
        have hk := HP.out.s
        refine hK.out _ _ hk (fun _ => ?_)
        clear hK K
        try simp only [Act.put, List.setIfInBounds_toArray, List.set_cons_zero, List.set_cons_succ]
        refine wpAnyH_ready (rs := [2]) (by decide +kernel) (by simp) ?_
        refine AllReadyH.cons (o := ⟨some 9, .call { callee := .builtin Builtin.append, args := #[.tmp 7, .tmp 8], argTypes := #[46, 46] }, 46, "store.go:89", #[⟨0, .data⟩, ⟨1, .data⟩], none⟩) rfl (fun K hK => ?_) AllReadyH.nil
        refine step_append_btsL rfl (.tmp 7) (.tmp 8) rfl base n _ l rfl HP.out.own (some ⟨G, 0, none⟩) 1 1 [1] rfl HN.out (.inr (by omega)) (by omega) HP.out.bs ?_
        intro v6 w6 hown6 hk6 hl6
        replace HP : Bx (PCs base w w6 bx #[.string key, .bool true, .slice ai ni ci] v6 (n + 1) (l ++ [1])) := ⟨HP.out.app hk6 hl6 hown6⟩
        try replace HM : Bx (Bts w6 (some ⟨G2, 0, none⟩) key.size cm (strL key) ∧ Apart v6 (some ⟨G2, 0, none⟩) key.size) := ⟨HM.out.1.apart hk6 HM.out.2, HM.out.2.lies HM.out.1 hl6⟩
        clear hown6 hk6 hl6 HN hk
        obtain ⟨wk, hwk⟩ : ∃ x, x = w6 := ⟨_, rfl⟩
        subst hwk
        obtain ⟨V, hVV⟩ : ∃ x, x = v6 := ⟨_, rfl⟩
        subst hVV
        have hk := HP.out.s
        refine hK.out _ _ hk (fun _ => ?_)
        clear hK K
        try simp only [Act.put, List.setIfInBounds_toArray, List.set_cons_zero, List.set_cons_succ]
        refine wpAnyH_ready (rs := [6]) (by decide +kernel) (by simp) ?_
        refine AllReadyH.cons (o := ⟨some 13, .call { callee := .value (.func 105), args := #[.tmp 9, .tmp 12], argTypes := #[46, 46] }, 46, "store.go:89", #[⟨2, .data⟩, ⟨5, .data⟩, ⟨2, .chain⟩], none⟩) rfl (fun K hK => ?_) AllReadyH.nil
        go_simp
        refine (putbytes_any base _ _ _ _ _ _ (strL key) _ HP.out.own HM.out.1 HM.out.2 HP.out.bs (by omega)).mono ?_
        rintro e7 w7 ⟨v7, rfl, hown7, hk7, hl7⟩
        replace HP := Bx.mk (HP.out.app hk7 hl7 hown7)
        clear hown7 hk7 hl7 HM hk
        have hk := HP.out.s
        refine hK.out _ _ hk (fun _ => ?_)
        clear hK K
        try simp only [Act.put, List.setIfInBounds_toArray, List.set_cons_zero, List.set_cons_succ]
        refine wpAnyH_take (i := 7) (oi := ⟨some 4, .assign (.tmp 13), 46, "store.go:89", #[⟨6, .data⟩, ⟨6, .chain⟩, ⟨0, .phase⟩, ⟨1, .phase⟩, ⟨2, .phase⟩, ⟨3, .phase⟩, ⟨4, .phase⟩, ⟨5, .phase⟩, ⟨6, .phase⟩], none⟩) (v := ?vpch27) rfl (by kernel_rfl) (by kernel_rfl) (by kernel_rfl) (fun _ _ _ h => h) (Or.inl ⟨by rfl, ?ypch27⟩) hk ?rpch27
        case ypch27 => (intro w hSw; (try dsimp only at hSw); go_simp; first | done | with_reducible rfl)
        simp only [Act.put, List.setIfInBounds_toArray, List.set_cons_zero, List.set_cons_succ]
        refine wpAnyH_done (by decide +kernel) ?_ _
        have hfin : w7.ownsRow base 5 1 v7 (n + (chgL ⟨key, true, val⟩).length) (bv (l ++ chgL ⟨key, true, val⟩)) := by
          have e1 : n + (chgL ⟨key, true, val⟩).length = n + 1 + ((varL key.size).length + key.size) := by rw [HR.out, List.length_cons, List.length_append, strL_length]; omega
          have e2 : l ++ chgL ⟨key, true, val⟩ = l ++ [1] ++ (varL key.size ++ strL key) := by rw [HR.out]; simp
          rw [e1, e2]; exact HP.out.own
        have hlow := HP.out.low
        obtain ⟨a9, n9, c9, rfl⟩ := own_form HP.out.own
        clear HP hk
        go_wp2_with fail
        go_ret
        exact ⟨_, rfl, hfin, hlow⟩
    · rw [if_pos (by rfl)]
      obtain ⟨cm, wv, hcv, hbv, hbm⟩ := conv_bytes wk key hks
      go_simp
      have HM : Bx (Bts wv (some ⟨wk.heap.size, 0, none⟩) key.size cm (strL key) ∧ Apart (_) (some ⟨wk.heap.size, 0, none⟩) key.size) := ⟨hbm, HP.out.new⟩
      replace HP := Bx.mk (HP.out.below hbv)
      try replace HN := Bx.mk (HN.out.below hbv)
      clear hcv hbv hbm hk
      generalize wk.heap.size = G2 at HM ⊢
      obtain ⟨wk, hwk⟩ : ∃ x, x = wv := ⟨_, rfl⟩
      subst hwk
      have hk := HP.out.s
      refine hK.out _ _ hk (fun _ => ?_)
      clear hK K
      try simp only [Act.put, List.setIfInBounds_toArray, List.set_cons_zero, List.set_cons_succ]
      refine wpAnyH_ready (rs := [1]) (by decide +kernel) (by simp) ?_
      refine AllReadyH.cons (o := ⟨some 8, .buildSlice 46 1 #[(0, .const (Value.int IntKind.u8 1))], 46, "store.go:89", #[], none⟩) rfl (fun K hK => ?_) AllReadyH.nil
      go_simp
      have hbA : Below wk.heap.size wk (wk.alloc (.cells #[.int .u8 1] 5)) := (Below.refl _ _).alloc (Nat.le_refl _) _
      have HN : Bx (Bts (wk.alloc (.cells #[.int .u8 1] 5)) (some ⟨wk.heap.size, 0, none⟩) 1 1 [1]) := ⟨bts_one wk _ (by decide)⟩
      replace HP : Bx (PCs base w (wk.alloc (.cells #[.int .u8 1] 5)) bx #[.string key, .bool true, .slice ai ni ci] V n l) := ⟨HP.out.below hbA⟩
      try replace HM : Bx (Bts (wk.alloc (.cells #[.int .u8 1] 5)) (some ⟨G2, 0, none⟩) key.size cm (strL key) ∧ Apart V (some ⟨G2, 0, none⟩) key.size) := ⟨HM.out.1.below hbA, HM.out.2⟩
      clear hbA hk
      generalize wk.heap.size = G at HN ⊢
      first | generalize wk.alloc (.cells #[.int .u8 1] 5) = wk at HN HP HM ⊢ | generalize wk.alloc (.cells #[.int .u8 1] 5) = wk at HN HP ⊢
      have hk := HP.out.s
      refine hK.out _ _ hk (fun _ => ?_)
      clear hK K
      try simp only [Act.put, List.setIfInBounds_toArray, List.set_cons_zero, List.set_cons_succ]
      refine wpAnyH_ready (rs := [2]) (by decide +kernel) (by simp) ?_
      refine AllReadyH.cons (o := ⟨some 9, .call { callee := .builtin Builtin.append, args := #[.tmp 7, .tmp 8], argTypes := #[46, 46] }, 46, "store.go:89", #[⟨0, .data⟩, ⟨1, .data⟩], none⟩) rfl (fun K hK => ?_) AllReadyH.nil
      refine step_append_btsL rfl (.tmp 7) (.tmp 8) rfl base n _ l rfl HP.out.own (some ⟨G, 0, none⟩) 1 1 [1] rfl HN.out (.inr (by omega)) (by omega) HP.out.bs ?_
      intro v6 w6 hown6 hk6 hl6
      replace HP : Bx (PCs base w w6 bx #[.string key, .bool true, .slice ai ni ci] v6 (n + 1) (l ++ [1])) := ⟨HP.out.app hk6 hl6 hown6⟩
      try replace HM : Bx (Bts w6 (some ⟨G2, 0, none⟩) key.size cm (strL key) ∧ Apart v6 (some ⟨G2, 0, none⟩) key.size) := ⟨HM.out.1.apart hk6 HM.out.2, HM.out.2.lies HM.out.1 hl6⟩
      clear hown6 hk6 hl6 HN hk
      obtain ⟨wk, hwk⟩ : ∃ x, x = w6 := ⟨_, rfl⟩
      subst hwk
      obtain ⟨V, hVV⟩ : ∃ x, x = v6 := ⟨_, rfl⟩
      subst hVV
      have hk := HP.out.s
      refine hK.out _ _ hk (fun _ => ?_)
      clear hK K
      try simp only [Act.put, List.setIfInBounds_toArray, List.set_cons_zero, List.set_cons_succ]
      refine wpAnyH_ready (rs := [6]) (by decide +kernel) (by simp) ?_
      refine AllReadyH.cons (o := ⟨some 13, .call { callee := .value (.func 105), args := #[.tmp 9, .tmp 12], argTypes := #[46, 46] }, 46, "store.go:89", #[⟨2, .data⟩, ⟨5, .data⟩, ⟨2, .chain⟩], none⟩) rfl (fun K hK => ?_) AllReadyH.nil
      go_simp
      refine (putbytes_any base _ _ _ _ _ _ (strL key) _ HP.out.own HM.out.1 HM.out.2 HP.out.bs (by omega)).mono ?_
      rintro e7 w7 ⟨v7, rfl, hown7, hk7, hl7⟩
      replace HP := Bx.mk (HP.out.app hk7 hl7 hown7)
      clear hown7 hk7 hl7 HM hk
      have hk := HP.out.s
      refine hK.out _ _ hk (fun _ => ?_)
      clear hK K
      try simp only [Act.put, List.setIfInBounds_toArray, List.set_cons_zero, List.set_cons_succ]
      refine wpAnyH_take (i := 7) (oi := ⟨some 4, .assign (.tmp 13), 46, "store.go:89", #[⟨6, .data⟩, ⟨6, .chain⟩, ⟨0, .phase⟩, ⟨1, .phase⟩, ⟨2, .phase⟩, ⟨3, .phase⟩, ⟨4, .phase⟩, ⟨5, .phase⟩, ⟨6, .phase⟩], none⟩) (v := ?vpch29) rfl (by kernel_rfl) (by kernel_rfl) (by kernel_rfl) (fun _ _ _ h => h) (Or.inl ⟨by rfl, ?ypch29⟩) hk ?rpch29
      case ypch29 => (intro w hSw; (try dsimp only at hSw); go_simp; first | done | with_reducible rfl)
      simp only [Act.put, List.setIfInBounds_toArray, List.set_cons_zero, List.set_cons_succ]
      refine wpAnyH_done (by decide +kernel) ?_ _
      have hfin : w7.ownsRow base 5 1 v7 (n + (chgL ⟨key, true, val⟩).length) (bv (l ++ chgL ⟨key, true, val⟩)) := by
        have e1 : n + (chgL ⟨key, true, val⟩).length = n + 1 + ((varL key.size).length + key.size) := by rw [HR.out, List.length_cons, List.length_append, strL_length]; omega
        have e2 : l ++ chgL ⟨key, true, val⟩ = l ++ [1] ++ (varL key.size ++ strL key) := by rw [HR.out]; simp
        rw [e1, e2]; exact HP.out.own
      have hlow := HP.out.low
      obtain ⟨a9, n9, c9, rfl⟩ := own_form HP.out.own
      clear HP hk
      go_wp2_with fail
      go_ret
      exact ⟨_, rfl, hfin, hlow⟩
  | false =>
    have HR : Bx (chgL ⟨key, false, val⟩ = 0 :: (varL key.size ++ (strL key ++ (varL ni ++ val)))) := ⟨by rw [← hvl]; simp [chgL]⟩
    have HP := Bx.mk (HP0.out false rfl)
    have hvn := (varL_length ni).2
    clear hown hbt hlo HP0
    subst hVV
    go_enter Tryz.func74, Tryz.ntmps74
    go_wp2_with fail
    rw [← hbx] at HP ⊢
    have hk := HP.out.s
    generalize w.alloc (.cells #[.string key, .bool false, .slice ai ni ci] 48) = w0 at hk HP ⊢
    generalize Value.slice a0 n0 c0 = V at HP ⊢
    clear hbx
    refine wp_region_held_drew (S := fun W => W.cell? ⟨bx, 0, none⟩ = some (.string key) ∧ W.cell? ⟨bx, 2, none⟩ = some (.slice ai ni ci)) (by kernel_rfl) hk (fun _ => ?_)
    generalize hwk : w0.drew = wk at hk HP ⊢
    clear hwk
    refine wpAnyH_take (i := 0) (oi := ⟨some 14, .move (.tmp 0), 46, "store.go:91", #[], none⟩) (v := ?vpch31) rfl (by kernel_rfl) (by kernel_rfl) (by kernel_rfl) (fun _ _ _ h => h) (Or.inl ⟨by rfl, ?ypch31⟩) hk ?rpch31
    case ypch31 => (intro w hSw; (try dsimp only at hSw); go_simp; first | done | with_reducible rfl)
    simp only [Act.put, List.setIfInBounds_toArray, List.set_cons_zero, List.set_cons_succ]
    refine wpAnyH_take (i := 3) (oi := ⟨some 17, .fieldAddr 48 (.tmp 3) 0, 0, "store.go:91", #[], none⟩) (v := ?vpch32) rfl (by kernel_rfl) (by kernel_rfl) (by kernel_rfl) (fun _ _ _ h => h) (Or.inl ⟨by rfl, ?ypch32⟩) hk ?rpch32
    case ypch32 => (intro w hSw; (try dsimp only at hSw); go_simp; first | done | with_reducible rfl)
    simp only [Act.put, List.setIfInBounds_toArray, List.set_cons_zero, List.set_cons_succ]
    refine wpAnyH_take (i := 4) (oi := ⟨some 18, .load 9 (.tmp 17), 9, "store.go:91", #[⟨3, .data⟩], none⟩) (v := ?vpch33) rfl (by kernel_rfl) (by kernel_rfl) (by kernel_rfl) (fun _ _ _ h => h) (Or.inl ⟨by rfl, ?ypch33⟩) hk ?rpch33
    case ypch33 => (intro w hSw; have hcw := hSw.1; clear hSw; go_simp; first | done | with_reducible rfl)
    simp only [Act.put, List.setIfInBounds_toArray, List.set_cons_zero, List.set_cons_succ]
    refine wpAnyH_take (i := 7) (oi := ⟨some 21, .fieldAddr 48 (.tmp 3) 2, 0, "store.go:91", #[], none⟩) (v := ?vpch34) rfl (by kernel_rfl) (by kernel_rfl) (by kernel_rfl) (fun _ _ _ h => h) (Or.inl ⟨by rfl, ?ypch34⟩) hk ?rpch34
    case ypch34 => (intro w hSw; (try dsimp only at hSw); go_simp; first | done | with_reducible rfl)
    simp only [Act.put, List.setIfInBounds_toArray, List.set_cons_zero, List.set_cons_succ]
    refine wpAnyH_take (i := 8) (oi := ⟨some 22, .load 46 (.tmp 21), 46, "store.go:91", #[⟨7, .data⟩], none⟩) (v := ?vpch35) rfl (by kernel_rfl) (by kernel_rfl) (by kernel_rfl) (fun _ _ _ h => h) (Or.inl ⟨by rfl, ?ypch35⟩) hk ?rpch35
    case ypch35 => (intro w hSw; have hcw := hSw.2; clear hSw; go_simp; first | done | with_reducible rfl)
    simp only [Act.put, List.setIfInBounds_toArray, List.set_cons_zero, List.set_cons_succ]
    refine wpAnyH_ready (rs := [1, 5]) (by decide +kernel) (by simp) ?_
    refine (AllReadyH.cons (o := ⟨some 15, .buildSlice 46 1 #[(0, .const (Value.int IntKind.u8 0))], 46, "store.go:91", #[], none⟩) rfl (fun K hK => ?_) (AllReadyH.cons (o := ⟨some 19, .convert 9 46 (.tmp 18), 46, "store.go:91", #[⟨4, .data⟩], none⟩) rfl (fun K hK => ?_) AllReadyH.nil))
    · go_simp
      have hbA : Below wk.heap.size wk (wk.alloc (.cells #[.int .u8 0] 5)) := (Below.refl _ _).alloc (Nat.le_refl _) _
      have HN : Bx (Bts (wk.alloc (.cells #[.int .u8 0] 5)) (some ⟨wk.heap.size, 0, none⟩) 1 1 [0]) := ⟨bts_one wk _ (by decide)⟩
      replace HP : Bx (PCs base w (wk.alloc (.cells #[.int .u8 0] 5)) bx #[.string key, .bool false, .slice ai ni ci] V n l) := ⟨HP.out.below hbA⟩
      try replace HM : Bx (Bts (wk.alloc (.cells #[.int .u8 0] 5)) (some ⟨G2, 0, none⟩) key.size cm (strL key) ∧ Apart V (some ⟨G2, 0, none⟩) key.size) := ⟨HM.out.1.below hbA, HM.out.2⟩
      clear hbA hk
      generalize wk.heap.size = G at HN ⊢
      first | generalize wk.alloc (.cells #[.int .u8 0] 5) = wk at HN HP HM ⊢ | generalize wk.alloc (.cells #[.int .u8 0] 5) = wk at HN HP ⊢
      have hk := HP.out.s
      refine hK.out _ _ hk (fun _ => ?_)
      clear hK K
      try simp only [Act.put, List.setIfInBounds_toArray, List.set_cons_zero, List.set_cons_succ]
      refine wpAnyH_ready (rs := [2, 5]) (by decide +kernel) (by simp) ?_
      refine (AllReadyH.cons (o := ⟨some 16, .call { callee := .builtin Builtin.append, args := #[.tmp 14, .tmp 15], argTypes := #[46, 46] }, 46, "store.go:91", #[⟨0, .data⟩, ⟨1, .data⟩], none⟩) rfl (fun K hK => ?_) (AllReadyH.cons (o := ⟨some 19, .convert 9 46 (.tmp 18), 46, "store.go:91", #[⟨4, .data⟩], none⟩) rfl (fun K hK => ?_) AllReadyH.nil))
      · refine step_append_btsL rfl (.tmp 14) (.tmp 15) rfl base n _ l rfl HP.out.own (some ⟨G, 0, none⟩) 1 1 [0] rfl HN.out (.inr (by omega)) (by omega) HP.out.bs ?_
        intro v6 w6 hown6 hk6 hl6
        replace HP : Bx (PCs base w w6 bx #[.string key, .bool false, .slice ai ni ci] v6 (n + 1) (l ++ [0])) := ⟨HP.out.app hk6 hl6 hown6⟩
        try replace HM : Bx (Bts w6 (some ⟨G2, 0, none⟩) key.size cm (strL key) ∧ Apart v6 (some ⟨G2, 0, none⟩) key.size) := ⟨HM.out.1.apart hk6 HM.out.2, HM.out.2.lies HM.out.1 hl6⟩
        clear hown6 hk6 hl6 HN hk
        obtain ⟨wk, hwk⟩ : ∃ x, x = w6 := ⟨_, rfl⟩
        subst hwk
        obtain ⟨V, hVV⟩ : ∃ x, x = v6 := ⟨_, rfl⟩
        subst hVV
        have hk := HP.out.s
        refine hK.out _ _ hk (fun _ => ?_)
        clear hK K
        try simp only [Act.put, List.setIfInBounds_toArray, List.set_cons_zero, List.set_cons_succ]
        refine wpAnyH_ready (rs := [5]) (by decide +kernel) (by simp) ?_
        refine AllReadyH.cons (o := ⟨some 19, .convert 9 46 (.tmp 18), 46, "store.go:91", #[⟨4, .data⟩], none⟩) rfl (fun K hK => ?_) AllReadyH.nil
        rw [if_pos (by rfl)]
        obtain ⟨cm, wv, hcv, hbv, hbm⟩ := conv_bytes wk key hks
        go_simp
        have HM : Bx (Bts wv (some ⟨wk.heap.size, 0, none⟩) key.size cm (strL key) ∧ Apart (_) (some ⟨wk.heap.size, 0, none⟩) key.size) := ⟨hbm, HP.out.new⟩
        replace HP := Bx.mk (HP.out.below hbv)
        try replace HN := Bx.mk (HN.out.below hbv)
        clear hcv hbv hbm hk
        generalize wk.heap.size = G2 at HM ⊢
        obtain ⟨wk, hwk⟩ : ∃ x, x = wv := ⟨_, rfl⟩
        subst hwk
        have hk := HP.out.s
        refine hK.out _ _ hk (fun _ => ?_)
        clear hK K
        try simp only [Act.put, List.setIfInBounds_toArray, List.set_cons_zero, List.set_cons_succ]
        refine wpAnyH_ready (rs := [6]) (by decide +kernel) (by simp) ?_
        refine AllReadyH.cons (o := ⟨some 20, .call { callee := .value (.func 105), args := #[.tmp 16, .tmp 19], argTypes := #[46, 46] }, 46, "store.go:91", #[⟨2, .data⟩, ⟨5, .data⟩, ⟨2, .chain⟩], none⟩) rfl (fun K hK => ?_) AllReadyH.nil
        go_simp
        refine (putbytes_any base _ _ _ _ _ _ (strL key) _ HP.out.own HM.out.1 HM.out.2 HP.out.bs (by omega)).mono ?_
        rintro e7 w7 ⟨v7, rfl, hown7, hk7, hl7⟩
        replace HP := Bx.mk (HP.out.app hk7 hl7 hown7)
        clear hown7 hk7 hl7 HM hk
        have hk := HP.out.s
        refine hK.out _ _ hk (fun _ => ?_)
        clear hK K
        try simp only [Act.put, List.setIfInBounds_toArray, List.set_cons_zero, List.set_cons_succ]
        refine wpAnyH_ready (rs := [9]) (by decide +kernel) (by simp) ?_
        refine AllReadyH.cons (o := ⟨some 23, .call { callee := .value (.func 105), args := #[.tmp 20, .tmp 22], argTypes := #[46, 46] }, 46, "store.go:91", #[⟨6, .data⟩, ⟨8, .data⟩, ⟨6, .chain⟩], none⟩) rfl (fun K hK => ?_) AllReadyH.nil
        go_simp
        obtain ⟨hvb, hva⟩ := HV.out _ HP.out.low
        refine (putbytes_any base _ _ _ _ _ _ val _ HP.out.own hvb (hva _ (fun g hg => (HP.out.own.lt g hg).1)) HP.out.bs (by omega)).mono ?_
        rintro e8 w8 ⟨v8, rfl, hown8, hk8, hl8⟩
        replace HP := Bx.mk (HP.out.app hk8 hl8 hown8)
        clear hown8 hk8 hl8 hk hvb hva
        have hk := HP.out.s
        refine hK.out _ _ hk (fun _ => ?_)
        clear hK K
        try simp only [Act.put, List.setIfInBounds_toArray, List.set_cons_zero, List.set_cons_succ]
        refine wpAnyH_take (i := 10) (oi := ⟨some 4, .assign (.tmp 23), 46, "store.go:91", #[⟨9, .data⟩, ⟨9, .chain⟩, ⟨0, .phase⟩, ⟨1, .phase⟩, ⟨2, .phase⟩, ⟨3, .phase⟩, ⟨4, .phase⟩, ⟨5, .phase⟩, ⟨6, .phase⟩, ⟨7, .phase⟩, ⟨8, .phase⟩, ⟨9, .phase⟩], none⟩) (v := ?vpch37) rfl (by kernel_rfl) (by kernel_rfl) (by kernel_rfl) (fun _ _ _ h => h) (Or.inl ⟨by rfl, ?ypch37⟩) hk ?rpch37
        case ypch37 => (intro w hSw; (try dsimp only at hSw); go_simp; first | done | with_reducible rfl)
        simp only [Act.put, List.setIfInBounds_toArray, List.set_cons_zero, List.set_cons_succ]
        refine wpAnyH_done (by decide +kernel) ?_ _
        have hfin : w8.ownsRow base 5 1 v8 (n + (chgL ⟨key, false, val⟩).length) (bv (l ++ chgL ⟨key, false, val⟩)) := by
          have e1 : n + (chgL ⟨key, false, val⟩).length = n + 1 + ((varL key.size).length + key.size) + ((varL ni).length + ni) := by rw [HR.out, List.length_cons, List.length_append, List.length_append, List.length_append, strL_length, hvl]; omega
          have e2 : l ++ chgL ⟨key, false, val⟩ = l ++ [0] ++ (varL key.size ++ strL key) ++ (varL ni ++ val) := by rw [HR.out]; simp
          rw [e1, e2]; exact HP.out.own
        have hlow := HP.out.low
        obtain ⟨a9, n9, c9, rfl⟩ := own_form HP.out.own
        clear HP hk
        go_wp2_with fail
        go_ret
        exact ⟨_, rfl, hfin, hlow⟩
      · rw [if_pos (by rfl)]
        obtain ⟨cm, wv, hcv, hbv, hbm⟩ := conv_bytes wk key hks
        go_simp
        have HM : Bx (Bts wv (some ⟨wk.heap.size, 0, none⟩) key.size cm (strL key) ∧ Apart (_) (some ⟨wk.heap.size, 0, none⟩) key.size) := ⟨hbm, HP.out.new⟩
        replace HP := Bx.mk (HP.out.below hbv)
        try replace HN := Bx.mk (HN.out.below hbv)
        clear hcv hbv hbm hk
        generalize wk.heap.size = G2 at HM ⊢
        obtain ⟨wk, hwk⟩ : ∃ x, x = wv := ⟨_, rfl⟩
        subst hwk
        have hk := HP.out.s
        refine hK.out _ _ hk (fun _ => ?_)
        clear hK K
        try simp only [Act.put, List.setIfInBounds_toArray, List.set_cons_zero, List.set_cons_succ]
        refine wpAnyH_ready (rs := [2]) (by decide +kernel) (by simp) ?_
        refine AllReadyH.cons (o := ⟨some 16, .call { callee := .builtin Builtin.append, args := #[.tmp 14, .tmp 15], argTypes := #[46, 46] }, 46, "store.go:91", #[⟨0, .data⟩, ⟨1, .data⟩], none⟩) rfl (fun K hK => ?_) AllReadyH.nil
        refine step_append_btsL rfl (.tmp 14) (.tmp 15) rfl base n _ l rfl HP.out.own (some ⟨G, 0, none⟩) 1 1 [0] rfl HN.out (.inr (by omega)) (by omega) HP.out.bs ?_
        intro v6 w6 hown6 hk6 hl6
        replace HP : Bx (PCs base w w6 bx #[.string key, .bool false, .slice ai ni ci] v6 (n + 1) (l ++ [0])) := ⟨HP.out.app hk6 hl6 hown6⟩
        try replace HM : Bx (Bts w6 (some ⟨G2, 0, none⟩) key.size cm (strL key) ∧ Apart v6 (some ⟨G2, 0, none⟩) key.size) := ⟨HM.out.1.apart hk6 HM.out.2, HM.out.2.lies HM.out.1 hl6⟩
        clear hown6 hk6 hl6 HN hk
        obtain ⟨wk, hwk⟩ : ∃ x, x = w6 := ⟨_, rfl⟩
        subst hwk
        obtain ⟨V, hVV⟩ : ∃ x, x = v6 := ⟨_, rfl⟩
        subst hVV
        have hk := HP.out.s
        refine hK.out _ _ hk (fun _ => ?_)
        clear hK K
        try simp only [Act.put, List.setIfInBounds_toArray, List.set_cons_zero, List.set_cons_succ]
        refine wpAnyH_ready (rs := [6]) (by decide +kernel) (by simp) ?_
        refine AllReadyH.cons (o := ⟨some 20, .call { callee := .value (.func 105), args := #[.tmp 16, .tmp 19], argTypes := #[46, 46] }, 46, "store.go:91", #[⟨2, .data⟩, ⟨5, .data⟩, ⟨2, .chain⟩], none⟩) rfl (fun K hK => ?_) AllReadyH.nil
        go_simp
        refine (putbytes_any base _ _ _ _ _ _ (strL key) _ HP.out.own HM.out.1 HM.out.2 HP.out.bs (by omega)).mono ?_
        rintro e7 w7 ⟨v7, rfl, hown7, hk7, hl7⟩
        replace HP := Bx.mk (HP.out.app hk7 hl7 hown7)
        clear hown7 hk7 hl7 HM hk
        have hk := HP.out.s
        refine hK.out _ _ hk (fun _ => ?_)
        clear hK K
        try simp only [Act.put, List.setIfInBounds_toArray, List.set_cons_zero, List.set_cons_succ]
        refine wpAnyH_ready (rs := [9]) (by decide +kernel) (by simp) ?_
        refine AllReadyH.cons (o := ⟨some 23, .call { callee := .value (.func 105), args := #[.tmp 20, .tmp 22], argTypes := #[46, 46] }, 46, "store.go:91", #[⟨6, .data⟩, ⟨8, .data⟩, ⟨6, .chain⟩], none⟩) rfl (fun K hK => ?_) AllReadyH.nil
        go_simp
        obtain ⟨hvb, hva⟩ := HV.out _ HP.out.low
        refine (putbytes_any base _ _ _ _ _ _ val _ HP.out.own hvb (hva _ (fun g hg => (HP.out.own.lt g hg).1)) HP.out.bs (by omega)).mono ?_
        rintro e8 w8 ⟨v8, rfl, hown8, hk8, hl8⟩
        replace HP := Bx.mk (HP.out.app hk8 hl8 hown8)
        clear hown8 hk8 hl8 hk hvb hva
        have hk := HP.out.s
        refine hK.out _ _ hk (fun _ => ?_)
        clear hK K
        try simp only [Act.put, List.setIfInBounds_toArray, List.set_cons_zero, List.set_cons_succ]
        refine wpAnyH_take (i := 10) (oi := ⟨some 4, .assign (.tmp 23), 46, "store.go:91", #[⟨9, .data⟩, ⟨9, .chain⟩, ⟨0, .phase⟩, ⟨1, .phase⟩, ⟨2, .phase⟩, ⟨3, .phase⟩, ⟨4, .phase⟩, ⟨5, .phase⟩, ⟨6, .phase⟩, ⟨7, .phase⟩, ⟨8, .phase⟩, ⟨9, .phase⟩], none⟩) (v := ?vpch39) rfl (by kernel_rfl) (by kernel_rfl) (by kernel_rfl) (fun _ _ _ h => h) (Or.inl ⟨by rfl, ?ypch39⟩) hk ?rpch39
        case ypch39 => (intro w hSw; (try dsimp only at hSw); go_simp; first | done | with_reducible rfl)
        simp only [Act.put, List.setIfInBounds_toArray, List.set_cons_zero, List.set_cons_succ]
        refine wpAnyH_done (by decide +kernel) ?_ _
        have hfin : w8.ownsRow base 5 1 v8 (n + (chgL ⟨key, false, val⟩).length) (bv (l ++ chgL ⟨key, false, val⟩)) := by
          have e1 : n + (chgL ⟨key, false, val⟩).length = n + 1 + ((varL key.size).length + key.size) + ((varL ni).length + ni) := by rw [HR.out, List.length_cons, List.length_append, List.length_append, List.length_append, strL_length, hvl]; omega
          have e2 : l ++ chgL ⟨key, false, val⟩ = l ++ [0] ++ (varL key.size ++ strL key) ++ (varL ni ++ val) := by rw [HR.out]; simp
          rw [e1, e2]; exact HP.out.own
        have hlow := HP.out.low
        obtain ⟨a9, n9, c9, rfl⟩ := own_form HP.out.own
        clear HP hk
        go_wp2_with fail
        go_ret
        exact ⟨_, rfl, hfin, hlow⟩
    · rw [if_pos (by rfl)]
      obtain ⟨cm, wv, hcv, hbv, hbm⟩ := conv_bytes wk key hks
      go_simp
      have HM : Bx (Bts wv (some ⟨wk.heap.size, 0, none⟩) key.size cm (strL key) ∧ Apart (_) (some ⟨wk.heap.size, 0, none⟩) key.size) := ⟨hbm, HP.out.new⟩
      replace HP := Bx.mk (HP.out.below hbv)
      try replace HN := Bx.mk (HN.out.below hbv)
      clear hcv hbv hbm hk
      generalize wk.heap.size = G2 at HM ⊢
      obtain ⟨wk, hwk⟩ : ∃ x, x = wv := ⟨_, rfl⟩
      subst hwk
      have hk := HP.out.s
      refine hK.out _ _ hk (fun _ => ?_)
      clear hK K
      try simp only [Act.put, List.setIfInBounds_toArray, List.set_cons_zero, List.set_cons_succ]
      refine wpAnyH_ready (rs := [1]) (by decide +kernel) (by simp) ?_
      refine AllReadyH.cons (o := ⟨some 15, .buildSlice 46 1 #[(0, .const (Value.int IntKind.u8 0))], 46, "store.go:91", #[], none⟩) rfl (fun K hK => ?_) AllReadyH.nil
      go_simp
      have hbA : Below wk.heap.size wk (wk.alloc (.cells #[.int .u8 0] 5)) := (Below.refl _ _).alloc (Nat.le_refl _) _
      have HN : Bx (Bts (wk.alloc (.cells #[.int .u8 0] 5)) (some ⟨wk.heap.size, 0, none⟩) 1 1 [0]) := ⟨bts_one wk _ (by decide)⟩
      replace HP : Bx (PCs base w (wk.alloc (.cells #[.int .u8 0] 5)) bx #[.string key, .bool false, .slice ai ni ci] V n l) := ⟨HP.out.below hbA⟩
      try replace HM : Bx (Bts (wk.alloc (.cells #[.int .u8 0] 5)) (some ⟨G2, 0, none⟩) key.size cm (strL key) ∧ Apart V (some ⟨G2, 0, none⟩) key.size) := ⟨HM.out.1.below hbA, HM.out.2⟩
      clear hbA hk
      generalize wk.heap.size = G at HN ⊢
      first | generalize wk.alloc (.cells #[.int .u8 0] 5) = wk at HN HP HM ⊢ | generalize wk.alloc (.cells #[.int .u8 0] 5) = wk at HN HP ⊢
      have hk := HP.out.s
      refine hK.out _ _ hk (fun _ => ?_)
      clear hK K
      try simp only [Act.put, List.setIfInBounds_toArray, List.set_cons_zero, List.set_cons_succ]
      refine wpAnyH_ready (rs := [2]) (by decide +kernel) (by simp) ?_
      refine AllReadyH.cons (o := ⟨some 16, .call { callee := .builtin Builtin.append, args := #[.tmp 14, .tmp 15], argTypes := #[46, 46] }, 46, "store.go:91", #[⟨0, .data⟩, ⟨1, .data⟩], none⟩) rfl (fun K hK => ?_) AllReadyH.nil
      refine step_append_btsL rfl (.tmp 14) (.tmp 15) rfl base n _ l rfl HP.out.own (some ⟨G, 0, none⟩) 1 1 [0] rfl HN.out (.inr (by omega)) (by omega) HP.out.bs ?_
      intro v6 w6 hown6 hk6 hl6
      replace HP : Bx (PCs base w w6 bx #[.string key, .bool false, .slice ai ni ci] v6 (n + 1) (l ++ [0])) := ⟨HP.out.app hk6 hl6 hown6⟩
      try replace HM : Bx (Bts w6 (some ⟨G2, 0, none⟩) key.size cm (strL key) ∧ Apart v6 (some ⟨G2, 0, none⟩) key.size) := ⟨HM.out.1.apart hk6 HM.out.2, HM.out.2.lies HM.out.1 hl6⟩
      clear hown6 hk6 hl6 HN hk
      obtain ⟨wk, hwk⟩ : ∃ x, x = w6 := ⟨_, rfl⟩
      subst hwk
      obtain ⟨V, hVV⟩ : ∃ x, x = v6 := ⟨_, rfl⟩
      subst hVV
      have hk := HP.out.s
      refine hK.out _ _ hk (fun _ => ?_)
      clear hK K
      try simp only [Act.put, List.setIfInBounds_toArray, List.set_cons_zero, List.set_cons_succ]
      refine wpAnyH_ready (rs := [6]) (by decide +kernel) (by simp) ?_
      refine AllReadyH.cons (o := ⟨some 20, .call { callee := .value (.func 105), args := #[.tmp 16, .tmp 19], argTypes := #[46, 46] }, 46, "store.go:91", #[⟨2, .data⟩, ⟨5, .data⟩, ⟨2, .chain⟩], none⟩) rfl (fun K hK => ?_) AllReadyH.nil
      go_simp
      refine (putbytes_any base _ _ _ _ _ _ (strL key) _ HP.out.own HM.out.1 HM.out.2 HP.out.bs (by omega)).mono ?_
      rintro e7 w7 ⟨v7, rfl, hown7, hk7, hl7⟩
      replace HP := Bx.mk (HP.out.app hk7 hl7 hown7)
      clear hown7 hk7 hl7 HM hk
      have hk := HP.out.s
      refine hK.out _ _ hk (fun _ => ?_)
      clear hK K
      try simp only [Act.put, List.setIfInBounds_toArray, List.set_cons_zero, List.set_cons_succ]
      refine wpAnyH_ready (rs := [9]) (by decide +kernel) (by simp) ?_
      refine AllReadyH.cons (o := ⟨some 23, .call { callee := .value (.func 105), args := #[.tmp 20, .tmp 22], argTypes := #[46, 46] }, 46, "store.go:91", #[⟨6, .data⟩, ⟨8, .data⟩, ⟨6, .chain⟩], none⟩) rfl (fun K hK => ?_) AllReadyH.nil
      go_simp
      obtain ⟨hvb, hva⟩ := HV.out _ HP.out.low
      refine (putbytes_any base _ _ _ _ _ _ val _ HP.out.own hvb (hva _ (fun g hg => (HP.out.own.lt g hg).1)) HP.out.bs (by omega)).mono ?_
      rintro e8 w8 ⟨v8, rfl, hown8, hk8, hl8⟩
      replace HP := Bx.mk (HP.out.app hk8 hl8 hown8)
      clear hown8 hk8 hl8 hk hvb hva
      have hk := HP.out.s
      refine hK.out _ _ hk (fun _ => ?_)
      clear hK K
      try simp only [Act.put, List.setIfInBounds_toArray, List.set_cons_zero, List.set_cons_succ]
      refine wpAnyH_take (i := 10) (oi := ⟨some 4, .assign (.tmp 23), 46, "store.go:91", #[⟨9, .data⟩, ⟨9, .chain⟩, ⟨0, .phase⟩, ⟨1, .phase⟩, ⟨2, .phase⟩, ⟨3, .phase⟩, ⟨4, .phase⟩, ⟨5, .phase⟩, ⟨6, .phase⟩, ⟨7, .phase⟩, ⟨8, .phase⟩, ⟨9, .phase⟩], none⟩) (v := ?vpch311) rfl (by kernel_rfl) (by kernel_rfl) (by kernel_rfl) (fun _ _ _ h => h) (Or.inl ⟨by rfl, ?ypch311⟩) hk ?rpch311
      case ypch311 => (intro w hSw; (try dsimp only at hSw); go_simp; first | done | with_reducible rfl)
      simp only [Act.put, List.setIfInBounds_toArray, List.set_cons_zero, List.set_cons_succ]
      refine wpAnyH_done (by decide +kernel) ?_ _
      have hfin : w8.ownsRow base 5 1 v8 (n + (chgL ⟨key, false, val⟩).length) (bv (l ++ chgL ⟨key, false, val⟩)) := by
        have e1 : n + (chgL ⟨key, false, val⟩).length = n + 1 + ((varL key.size).length + key.size) + ((varL ni).length + ni) := by rw [HR.out, List.length_cons, List.length_append, List.length_append, List.length_append, strL_length, hvl]; omega
        have e2 : l ++ chgL ⟨key, false, val⟩ = l ++ [0] ++ (varL key.size ++ strL key) ++ (varL ni ++ val) := by rw [HR.out]; simp
        rw [e1, e2]; exact HP.out.own
      have hlow := HP.out.low
      obtain ⟨a9, n9, c9, rfl⟩ := own_form HP.out.own
      clear HP hk
      go_wp2_with fail
      go_ret
      exact ⟨_, rfl, hfin, hlow⟩
end Go.Proofs.YtjnjokbdoendkaaGreat
namespace Go.Proofs.YtjnjokbdoendkaaGreat
open Go.RowKit
set_option linter.unusedVariables false

/-- what Encode answers -/
def encR (L : List Chg) : List Int := if chkL L = 0 then encL L else []
/-- the text of the first k -/
def encP (L : List Chg) (k : Nat) : List Int := varL L.length ++ (L.take k).flatMap chgL
set_option maxRecDepth 100000 in
theorem encP_step (L : List Chg) (k : Nat) (h : k < L.length) : encP L (k + 1) = encP L k ++ chgL L[k] := by
  unfold encP
  rw [List.take_succ_eq_append_getElem h, List.flatMap_append]; simp
set_option maxRecDepth 100000 in
theorem encP_all (L : List Chg) (k : Nat) (h : L.length ≤ k) : encP L k = encL L := by
  unfold encP encL
  rw [List.take_of_length_le h]
set_option maxRecDepth 100000 in
theorem encP_length {L : List Chg} (h : LOk L) (k : Nat) : (encP L k).length ≤ 70000 := by
  have h1 := flat_length (L.take k) (fun c hc => h.c c (List.mem_of_mem_take hc))
  have h2 := (varL_length L.length).2
  have := h.n2
  have h3 : (L.take k).length ≤ L.length := by rw [List.length_take]; omega
  unfold encP
  rw [List.length_append]
  omega
set_option maxRecDepth 100000 in
set_option maxHeartbeats 2000000 in
theorem encode_any (B : Nat → Prop) (ao : Option Addr) (len cap : Nat) (L : List Chg) (w : World) (h : CT B w ao len cap L) (hks : ∀ c ∈ L, c.key.size ≤ 9223372036854775807) :
    Calls Tryz.prog 43 #[.slice ao len cap] w fun e w' => ∃ v, e = .returned (.tuple #[v, .int .i64 (chkL L)]) ∧ w'.ownsRow w.heap.size 5 1 v (encR L).length (bv (encR L)) ∧ Below w.heap.size w w' := by
  have HL : Bx (CT B w ao len cap L) := ⟨h⟩
  have HLW : Bx (CT (fun k => k < w.heap.size) w ao len cap L) := ⟨h.low⟩
  have HKS : Bx (∀ c ∈ L, c.key.size ≤ 9223372036854775807) := ⟨hks⟩
  have HLEN : Bx (L.length = len) := ⟨h.len_eq⟩
  have hcl := h.le_cap
  have hcm := h.cap_le
  unfold maxLen at hcm
  clear h hks
  go_enter Tryz.func43, Tryz.ntmps43
  go_wp2_with fail
  refine (check_any B ao len cap L _ HL.out HKS.out).mono ?_
  rintro e w1 ⟨rfl, hb1⟩
  by_cases hY : chkL L = 0
  · have HR : Bx (encR L = encL L) := ⟨by unfold encR; rw [if_pos hY]⟩
    have HOK : Bx (LOk L) := ⟨chkL_ok hY⟩
    have hlen : len ≤ 16 := by have := HOK.out.n2; rw [HLEN.out] at this; exact this
    rw [hY]
    have HY : Bx (chkL L = 0) := ⟨hY⟩
    have gm : (len : Int) % 18446744073709551616 = len := by omega
    have HP0 : Bx (encP L 0 = varL len) := ⟨by unfold encP; rw [HLEN.out]; simp⟩
    have hs1 := hb1.size
    have HB1 : Bx (Below w.heap.size w w1) := ⟨hb1⟩
    clear hY hb1 HL
    go_wp2_with fail
    refine (var_any (len : Int) _ (by omega) (by omega)).mono ?_
    rintro e w2 ⟨v2, rfl, hown2, hb2⟩
    rw [← HP0.out] at hown2
    have hown2' := owns_base hown2 hs1
    have hbw2 := bstep HB1.out hb2
    clear hown2 HB1
    obtain ⟨a2, n2, c2, rfl⟩ := own_form hown2'
    go_wp2_with fail
    go_loopw [5, 19] (fun v i wr => ∃ k : Nat, k ≤ len ∧ i = .int .i64 k ∧ Bx (wr.ownsRow w.heap.size 5 1 v (encP L k).length (bv (encP L k))) ∧ Below w.heap.size w wr ∧ (∃ a0 n0 c0, v = .slice a0 n0 c0)) (fun _ i _ => len - (intOf i).toNat)
    case atStart => exact ⟨0, Nat.zero_le _, rfl, ⟨hown2'⟩, hbw2, _, _, _, rfl⟩
    case round =>
      clear hown2' hbw2 hb2
      obtain ⟨k, hk, rfl, HO, hbw, a0, n0, c0, rfl⟩ := hrel
      by_cases hlt : k < len
      · have hkI : (k : Int) < (len : Int) := by omega
        have hkL : k < L.length := by rw [HLEN.out]; exact hlt
        have HST : Bx (encP L (k + 1) = encP L k ++ chgL L[k]) := ⟨encP_step L k hkL⟩
        have hPl := encP_length HOK.out k
        have hck := HOK.out.c _ (List.getElem_mem hkL)
        obtain ⟨b, off, ai, ni, ci, rfl, hbl, _, h1, h2, h3, hbt, hlo⟩ := (HLW.out.stay hbw).chg k hlt
        generalize hcc : L[k] = cc at h1 h2 hbt hck HST
        obtain ⟨kk, dd, vv⟩ := cc
        simp only at h1 h2 hbt
        have hk40 := hck.k2
        have hv40 := hck.v
        have hvl := hbt.len_eq
        simp only at hk40 hv40
        have HBT : Bx (Bts wr ai ni ci vv) := ⟨hbt⟩
        have HLO2 : Bx (0 < ni → ∀ p, ai = some p → p.block < w.heap.size) := ⟨hlo⟩
        have HBW : Bx (Below w.heap.size w wr) := ⟨hbw⟩
        have hba : Bx (Below wr.heap.size wr (wr.alloc (.cells #[.string kk, .bool dd, .slice ai ni ci] 48))) := ⟨(Below.refl _ _).alloc (Nat.le_refl _) _⟩
        have hsr := hbw.size
        generalize encP L k = P at HO HST hPl
        clear hcc hbt hlo hbw hck
        go_wp2_with fail
        refine (putchange_any w.heap.size _ (.slice a0 n0 c0) P kk dd vv ai ni ci _ (owns_below HO.out hba.out) (HBT.out.below hba.out) HLO2.out (by have := hba.out.size; omega) (by omega) (by omega) (by omega)).mono ?_
        rintro e w3 ⟨v3, rfl, hown3, hb3⟩
        have hbw3 := (bstep HBW.out hba.out).trans hb3
        have HO3 : Bx (w3.ownsRow w.heap.size 5 1 v3 (encP L (k + 1)).length (bv (encP L (k + 1)))) := ⟨by rw [HST.out, List.length_append]; exact hown3⟩
        obtain ⟨a3, n3, c3, rfl⟩ := own_form hown3
        clear hown3 hb3 HO HST h1 h2 h3 HBT HLO2 HBW hba
        go_wp2_with fail
        go_roundw
        case rel => exact ⟨k + 1, by omega, by go_num, HO3, hbw3, _, _, _, rfl⟩
        case measure => simp [intOf]; omega
      · have hkI : ¬ (k : Int) < (len : Int) := by omega
        have HF : Bx (encP L k = encR L) := ⟨by rw [HR.out, encP_all L k (by rw [HLEN.out]; omega)]⟩
        rw [HF.out] at HO
        go_wp2_with fail
        go_ret2
        exact ⟨_, by rw [HY.out]; rfl, HO.out, hbw⟩
  · have HR : Bx (encR L = []) := ⟨by unfold encR; rw [if_neg hY]⟩
    have g2 : (chkL L != 0) = true := by simp [hY]
    obtain ⟨Y, HYY⟩ : ∃ Y, Bx (chkL L = Y) := ⟨_, ⟨rfl⟩⟩
    rw [HYY.out] at g2 ⊢
    clear hY
    go_wp2_with fail
    go_ret2
    exact ⟨_, by rw [HYY.out]; rfl, by rw [HR.out]; exact World.ownsRow_nil _ _ _ _, hb1⟩
end Go.Proofs.YtjnjokbdoendkaaGreat
