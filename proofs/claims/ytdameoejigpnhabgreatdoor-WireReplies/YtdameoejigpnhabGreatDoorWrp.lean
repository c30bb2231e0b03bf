/- Texts as lists of bytes, bytes as texts. No walk. '[]byte(s)': new memory. Bytes behind an own row, and where it lies then. -/
import Derived.Test.YtdameoejigpnhabGreatDoorSma
import Derived.Lib.Strings
import Derived.Laws.BitsAllLaws
import Derived.Laws.IdiomStrings
import Derived.Lib.SlicesS
import Derived.Lib.ConvBytes
import Derived.Test.YtdameoejigpnhabGreatDoorKeep
import Derived.Test.YtdameoejigpnhabGreatDoorAppBts
import Derived.Deep.AppendLies
import Derived.ArgAppend
namespace Go.Proofs.YtdameoejigpnhabGreatDoor
open Go.RowKit
set_option linter.unusedVariables false

/-- the text that a list of bytes is -/
def strOf (l : List Int) : ByteArray := ⟨(l.map fun c => UInt8.ofNat c.toNat).toArray⟩
set_option maxRecDepth 100000 in
theorem strOf_inj : ∀ {l m : List Int}, Byt l → Byt m → strOf l = strOf m → l = m := by
  intro l m hl hm h
  have h1 : (l.map fun c => UInt8.ofNat c.toNat) = m.map fun c => UInt8.ofNat c.toNat := by
    have := congrArg ByteArray.data h
    simpa [strOf] using this
  have hlen : l.length = m.length := by have := congrArg List.length h1; simpa using this
  apply List.ext_getElem?
  intro i
  by_cases hi : i < l.length
  · have e := congrArg (·[i]?) h1
    simp only [List.getElem?_map, List.getElem?_eq_getElem hi, List.getElem?_eq_getElem (show i < m.length by omega), Option.map_some, Option.some.injEq] at e
    have b1 := hl _ (List.getElem_mem hi)
    have b2 := hm _ (List.getElem_mem (show i < m.length by omega))
    have e2 := congrArg UInt8.toNat e
    simp only [UInt8.toNat_ofNat'] at e2
    rw [List.getElem?_eq_getElem hi, List.getElem?_eq_getElem (show i < m.length by omega)]
    congr 1
    omega
  · rw [List.getElem?_eq_none (by omega), List.getElem?_eq_none (by omega)]
set_option maxRecDepth 100000 in
theorem fold_push : ∀ (l : List Int) (r : ByteArray), l.foldl (fun r n => r.push (UInt8.ofNat n.toNat)) r = ⟨r.data ++ (l.map fun c => UInt8.ofNat c.toNat).toArray⟩
  | [], r => by simp
  | b :: l, r => by rw [List.foldl_cons, fold_push l]; simp [ByteArray.push]
set_option maxRecDepth 100000 in
/-- 'string(b)' of bytes that read as a list -/
theorem Bts.str {w : World} {a : Option Addr} {len cap : Nat} {l : List Int} (h : Bts w a len cap l) : (convert 22 9 (.slice a len cap)).run Tryz.prog w = .ok (.string (strOf l)) w := by
  rw [run_convert_bytes_string w _ _ 5 a len cap Tryz.underlying22 Tryz.underlying5 Tryz.underlying9]
  cases a with
  | none =>
    have h1 := h.nil rfl
    have h2 := h.le_cap
    have h3 := h.len_eq
    obtain rfl : l = [] := List.eq_nil_of_length_eq_zero (by omega)
    rfl
  | some ad =>
    have hl := run_loadCells_list (P := Tryz.prog) w ad (bv l) h.cells
    rw [bv_length, h.len_eq] at hl
    rw [run_bytesToString w ad len cap l hl, fold_push]
    have he0 : ByteArray.empty.data = #[] := rfl
    rw [he0]
    simp [strOf]
/-- a text's bytes -/
def strL (s : ByteArray) : List Int := s.data.toList.map (fun b => (b.toNat : Int))
set_option maxRecDepth 100000 in
theorem strL_length (s : ByteArray) : (strL s).length = s.size := by rw [strL, List.length_map]; rfl
set_option maxRecDepth 100000 in
theorem strL_byt (s : ByteArray) : Byt (strL s) := by
  intro c hc
  obtain ⟨b, _, rfl⟩ := List.mem_map.1 hc
  have := b.toNat_lt
  omega
set_option maxRecDepth 100000 in
theorem strOf_strL (s : ByteArray) : strOf (strL s) = s := by
  obtain ⟨d⟩ := s
  simp only [strOf, strL, List.map_map, ByteArray.mk.injEq]
  have e : ((fun c : Int => UInt8.ofNat c.toNat) ∘ fun b : UInt8 => (b.toNat : Int)) = id := by
    funext b
    simp
  rw [e]; simp
set_option maxRecDepth 100000 in
theorem strL_inj {s t : ByteArray} (h : strL s = strL t) : s = t := by rw [← strOf_strL s, h, strOf_strL]
set_option maxRecDepth 100000 in
theorem strOf_size (l : List Int) : (strOf l).size = l.length := by simp [strOf, ByteArray.size]
set_option maxRecDepth 100000 in
theorem strL_strOf {l : List Int} (h : Byt l) : strL (strOf l) = l := strOf_inj (strL_byt _) h (strOf_strL _)
set_option maxRecDepth 100000 in
theorem strL_len (s : ByteArray) : (strL s).length = s.size := by simp [strL]
set_option maxRecDepth 100000 in
theorem strL_getD (s : ByteArray) (j : Nat) (hj : j < s.size) : (strL s).getD j 0 = ((s.data.toList.getD j 0).toNat : Int) := by
  have h : j < s.data.toList.length := by simpa using hj
  simp only [strL, List.getD_eq_getElem?_getD, List.getElem?_map, List.getElem?_eq_getElem h, Option.map_some, Option.getD_some]
set_option maxRecDepth 100000 in
theorem strOf_append (a b : List Int) : strOf (a ++ b) = strOf a ++ strOf b := by
  rw [← Lib.mk_data (strOf a ++ strOf b), ← Lib.mk_data (strOf (a ++ b))]; simp [strOf]
end Go.Proofs.YtdameoejigpnhabGreatDoor
namespace Go.Proofs.YtdameoejigpnhabGreatDoor
open Go.RowKit
set_option linter.unusedVariables false

set_option maxRecDepth 100000 in
theorem bytes_low (w : World) (e : TypeId) (s : ByteArray) : Below w.heap.size w (Lib.bytesWorld w e s) :=
  ⟨rfl, rfl, rfl, by rw [Lib.bytesWorld_size]; omega, fun k hk => Lib.bytesWorld_at_old w e s k hk⟩
set_option maxRecDepth 100000 in
theorem bytes_bts (w : World) (s : ByteArray) (hs : s.size ≤ maxLen) : Bts (Lib.bytesWorld w 5 s) (some ⟨w.heap.size, 0, none⟩) s.size (grownCap w s.size 0 5) (strL s) := by
  refine ⟨strL_length s, strL_byt s, grownCap_ge _ _ _ _, grownCap_le_maxLen _ _ _ _ hs, (fun hh => by cases hh), fun _ => ⟨w.heap.size, 0, rfl, by rw [Lib.bytesWorld_size]; omega, fun i hi => ?_⟩⟩
  rw [Nat.zero_add, Lib.bytesWorld_cell w 5 s i hi, strL_getD s i hi]
set_option maxRecDepth 100000 in
/-- '[]byte(s)': new memory -/
theorem conv_bytes (w : World) (s : ByteArray) (hs : s.size ≤ maxLen) : ∃ c w2, (convert 9 22 (.string s)).run Tryz.prog w = .ok (.slice (some ⟨w.heap.size, 0, none⟩) s.size c) w2 ∧ Below w.heap.size w w2 ∧ Bts w2 (some ⟨w.heap.size, 0, none⟩) s.size c (strL s) :=
  ⟨_, _, Lib.run_convert_string_bytes (P := Tryz.prog) w 9 22 5 s Tryz.underlying9 Tryz.underlying22 Tryz.underlying5, bytes_low w _ s, bytes_bts w s hs⟩
end Go.Proofs.YtdameoejigpnhabGreatDoor
namespace Go.Proofs.YtdameoejigpnhabGreatDoor
open Go.RowKit
set_option linter.unusedVariables false

/-- where a row's new place may be -/
def Lies (v v' : Value) (H : Nat) : Prop := ∀ g, v'.ownBlock = some g → v.ownBlock = some g ∨ H ≤ g
set_option maxRecDepth 100000 in
theorem Lies.trans {v v1 v2 : Value} {H H1 : Nat} (h : Lies v v1 H) (k : Lies v1 v2 H1) (hs : H ≤ H1) : Lies v v2 H := fun g hg => by
  rcases k g hg with h1 | h1
  · exact h g h1
  · exact .inr (by omega)
set_option maxRecDepth 100000 in
theorem Kept.of_grown {w w' : World} {v : Value} (h : w.grownBy w' v.ownBlock) : Kept (fun k => v.ownBlock = some k) w w' := ⟨h.os, h.tape, h.output, h.size, fun k hk hn => h.block k hk (fun e => hn e.symm)⟩
set_option maxRecDepth 100000 in
theorem Kept.lies {w w1 w2 : World} {v v1 : Value} (h : Kept (fun k => v.ownBlock = some k) w w1) (k : Kept (fun k => v1.ownBlock = some k) w1 w2) (hl : Lies v v1 w.heap.size) : Kept (fun k => v.ownBlock = some k) w w2 := h.trans k (fun k hk => hl k hk)
set_option maxRecDepth 100000 in
/-- bytes of whatever make behind an own row, and where it lies then -/
theorem wp_append_btsL {o : Oper} {a : Act} {w : World} {K : Act → World → Prop} {Q : Exit → Act → World → Prop} (s x : Operand)
    (ho : o.op = .call { callee := .builtin .append, args := #[s, x], argTypes := #[22, 22] })
    (base n : Nat) (v : Value) (l : List Int) (hs : a.eval s = v) (hown : w.ownsRow base 5 1 v n (bv l))
    (ao : Option Addr) (m c : Nat) (l2 : List Int) (hx : a.eval x = .slice ao m c) (hb : Bts w ao m c l2) (hnm : 0 < n ∨ 0 < m) (h63 : n + m ≤ 140737488355328) (hbase : base ≤ w.heap.size)
    (h : ∀ v' w', w'.ownsRow base 5 1 v' (n + m) (bv (l ++ l2)) → Kept (fun k => v.ownBlock = some k) w w' → Lies v v' w.heap.size → K (a.put o.dst v') w') : o.wp Tryz.prog a w K Q := by
  obtain ⟨i0, hi, hz0, hz1, hz2⟩ := info_parts Tryz.info5
  cases ao with
  | none =>
    have h0 := hb.nil rfl
    have h1 := hb.le_cap
    obtain rfl : c = 0 := h0
    obtain rfl : m = 0 := by omega
    obtain rfl : l2 = [] := List.eq_nil_of_length_eq_zero hb.len_eq
    have hrun := run_append_owned_none (P := Tryz.prog) (w := w) base 22 o.type 5 i0 1 Tryz.underlying22 hi v n (bv l) hown
    unfold Oper.wp
    simp [execOp, ho, resolve, invoke, builtin, hs, hx, hrun, Result.andThen]
    exact h _ _ (by rw [List.append_nil]; exact hown) (Kept.refl _ _) (fun g hg => .inl hg)
  | some ad =>
    have hl := hb.len_eq
    by_cases hm : 0 < m
    · refine wp_append_lies w s x 22 ho base 5 i0 (.int .u8 0) 1 1 Tryz.underlying22 hi hz0 hz1 hz2 rfl (by decide) v n (bv l) hs hown ad m c (bv l2) hx (by rw [bv_length]; omega) hb.cells (bv_one l2) hm (by unfold maxLen; omega) (by omega) hbase _ rfl ?_
      intro g cap w' ho' hg hl' _
      refine h _ w' (by rw [bv_append]; exact ho') (Kept.of_grown hg) (fun k hk => ?_)
      have e : g = k := by simpa [Value.ownBlock] using hk
      rcases hl' with h1 | h1
      · exact .inl (by rw [← e]; exact h1)
      · exact .inr (by omega)
    · obtain rfl : m = 0 := by omega
      obtain rfl : l2 = [] := List.eq_nil_of_length_eq_zero hb.len_eq
      obtain ⟨g, cap, rfl, hg, _⟩ := owns_form hown (by omega)
      have hnc : n ≤ cap := by
        rcases hown.2 with ⟨h1, _⟩ | ⟨g', cap', cur, hv, _, _, hnc, _⟩
        · cases h1
        · cases hv; exact hnc
      have hrun := run_append_room_cells (P := Tryz.prog) w 22 o.type 5 i0 Tryz.underlying22 hi g 0 n cap ad 0 c [] (by simp) (fun j u hj => by simp at hj) (fun u hu => by simp at hu) (by omega) (fun j hj => by simp at hj) (fun j hj => by simp at hj)
      unfold Oper.wp
      simp [execOp, ho, resolve, invoke, builtin, hs, hx, hrun, Result.andThen]
      exact h _ _ (by rw [List.append_nil]; exact hown) (Kept.refl _ _) (fun g hg => .inl hg)
set_option maxRecDepth 100000 in
theorem wpList_append_btsL {ops : Array Oper} {rest : List Oper} {o : Oper} {a : Act} {w : World} {Q : Exit → Act → World → Prop} (hgd : o.guard = none) (s x : Operand)
    (ho : o.op = .call { callee := .builtin .append, args := #[s, x], argTypes := #[22, 22] })
    (base n : Nat) (v : Value) (l : List Int) (hs : a.eval s = v) (hown : w.ownsRow base 5 1 v n (bv l))
    (ao : Option Addr) (m c : Nat) (l2 : List Int) (hx : a.eval x = .slice ao m c) (hb : Bts w ao m c l2) (hnm : 0 < n ∨ 0 < m) (h63 : n + m ≤ 140737488355328) (hbase : base ≤ w.heap.size)
    (h : ∀ v' w', w'.ownsRow base 5 1 v' (n + m) (bv (l ++ l2)) → Kept (fun k => v.ownBlock = some k) w w' → Lies v v' w.heap.size → wpList Tryz.prog ops Q rest (a.put o.dst v') w') : wpList Tryz.prog ops Q (o :: rest) a w :=
  wpList_plain hgd fun K hK => wp_append_btsL s x ho base n v l hs hown ao m c l2 hx hb hnm h63 hbase (fun v' w' h1 h2 h3 => hK _ _ (h v' w' h1 h2 h3))
set_option maxRecDepth 100000 in
theorem step_append_btsL {ops : Array Oper} {o : Oper} {a : Act} {w : World} {K : Act → World → Prop} {Q : Exit → Act → World → Prop} {E : Prop} (hgd : o.guard = none) (s x : Operand)
    (ho : o.op = .call { callee := .builtin .append, args := #[s, x], argTypes := #[22, 22] })
    (base n : Nat) (v : Value) (l : List Int) (hs : a.eval s = v) (hown : w.ownsRow base 5 1 v n (bv l))
    (ao : Option Addr) (m c : Nat) (l2 : List Int) (hx : a.eval x = .slice ao m c) (hb : Bts w ao m c l2) (hnm : 0 < n ∨ 0 < m) (h63 : n + m ≤ 140737488355328) (hbase : base ≤ w.heap.size)
    (h : ∀ v' w', w'.ownsRow base 5 1 v' (n + m) (bv (l ++ l2)) → Kept (fun k => v.ownBlock = some k) w w' → Lies v v' w.heap.size → K (a.put o.dst v') w') :
    if Region.wanted o (yielded ops a.tmps) = true then Oper.wp Tryz.prog o a w K Q else E := by
  have hw : Region.wanted o (yielded ops a.tmps) = true := by simp [Region.wanted, hgd]
  rw [if_pos hw]
  exact wp_append_btsL s x ho base n v l hs hown ao m c l2 hx hb hnm h63 hbase h
/-- bytes that stand apart from a row -/
def Apart (v : Value) (ao : Option Addr) (m : Nat) : Prop := 0 < m → ∀ p, ao = some p → v.ownBlock ≠ some p.block
set_option maxRecDepth 100000 in
theorem Bts.apart {w w' : World} {v : Value} {ao : Option Addr} {m c : Nat} {l : List Int} (h : Bts w ao m c l) (hk : Kept (fun k => v.ownBlock = some k) w w') (ha : Apart v ao m) : Bts w' ao m c l :=
  h.keep (fun hp p e => hk.block _ (h.lt hp e) (fun e2 => ha hp p e e2)) hk.size
set_option maxRecDepth 100000 in
theorem Apart.lies {w : World} {v v' : Value} {ao : Option Addr} {m c : Nat} {l : List Int} (h : Apart v ao m) (hb : Bts w ao m c l) (hl : Lies v v' w.heap.size) : Apart v' ao m := fun hp p e e2 => by
  rcases hl _ e2 with h1 | h1
  · exact h hp p e h1
  · have := hb.lt hp e; omega
set_option maxRecDepth 100000 in
theorem kept_owns {w w' : World} {own : Nat → Prop} {base n : Nat} {v : Value} {xs : List Value} {E : TypeId} {k : Nat} (h : w.ownsRow base E k v n xs) (hk : Kept own w w') (hn : ∀ g, v.ownBlock = some g → ¬ own g) : w'.ownsRow base E k v n xs := by
  refine ⟨h.1, ?_⟩
  rcases h.2 with h2 | ⟨g, cap, cur, hv, hg, hh, r⟩
  · exact .inl h2
  · exact .inr ⟨g, cap, cur, hv, hg, by rw [hk.block g (Array.getElem?_eq_some_iff.1 hh).1 (hn g (by rw [hv]; rfl))]; exact hh, r⟩
end Go.Proofs.YtdameoejigpnhabGreatDoor
