/- Noughts behind an own row of bytes: 'append(b, make([]byte, n)...)'. -/
import Derived.Test.YtpfijaojgeceeaaGreatDoorBase
import Derived.Laws.CopyOwn
import Derived.Lib.AppendZerosOnto
namespace Go.Proofs.YtpfijaojgeceeaaGreatDoor
open Go.RowKit
set_option linter.unusedVariables false

set_option maxRecDepth 100000 in
theorem zeros_bv (k : Nat) : Builtin.zeroCells (Value.int .u8 0).cells k = (bv (List.replicate k 0)).toArray := by
  apply Array.ext
  · simp [Builtin.zeroCells, Value.cells, bv]
  · intro j h1 h2
    simp [Builtin.zeroCells, Value.cells, bv, Nat.mod_one]
set_option maxRecDepth 100000 in
/-- a new row that begins with the bytes l is owned -/
theorem owns_fresh (w : World) (base cap n : Nat) (l : List Int) (rest : Array Value) (hl : l.length = n) (hr : n + rest.size = cap) (hm : cap ≤ maxLen) (hb : base ≤ w.heap.size) :
    (w.alloc (.cells ((bv l).toArray ++ rest) 5)).ownsRow base 5 1 (.slice (some ⟨w.heap.size, 0, none⟩) n cap) n (bv l) := by
  refine ⟨by rw [bv_length, hl, Nat.mul_one], .inr ⟨w.heap.size, cap, _, rfl, hb, heap_alloc_new w _, by omega, hm, ?_, ?_⟩⟩
  · rw [Array.size_append, List.size_toArray, bv_length, hl, Nat.mul_one]; exact hr
  · rw [Array.toList_append, Nat.mul_one, ← hl, ← bv_length]; exact List.take_left
set_option maxRecDepth 100000 in
theorem app_zeros (w : World) (ty : TypeId) (base n k : Nat) (v : Value) (l : List Int) (hown : w.ownsRow base 5 1 v n (bv l)) (hbd : n + k ≤ 1099511627776) (hbase : base ≤ w.heap.size) :
    ∃ v' w', (Builtin.append_ #[22, 3] ty #[v, .int .i64 k]).run Tryz.prog w = .ok v' w' ∧ w'.ownsRow base 5 1 v' (n + k) (bv (l ++ List.replicate k 0)) ∧ Below base w w' := by
  obtain ⟨i0, hi, hz0, hz1, hz2⟩ := info_parts Tryz.info5
  have hs := Tryz.underlying22
  have hn := Tryz.underlying3
  have hlen : l.length = n := by have := hown.1; rw [bv_length, Nat.mul_one] at this; exact this
  have hw : IntKind.i64.wrap (k : Int) = k := by rw [IntKind.wrap_i64]; omega
  have hw0 : IntKind.i64.wrap 0 = 0 := by rw [IntKind.wrap_i64]; rfl
  have hcap : ∀ old, n + k ≤ grownCap w (n + k) old 5 ∧ grownCap w (n + k) old 5 ≤ maxLen := fun old => ⟨grownCap_ge _ _ _ _, grownCap_le_maxLen _ _ _ _ (by unfold maxLen; omega)⟩
  have hlow : ∀ o, Below base w (w.drew.alloc o) := fun o => (Below.refl base w).drew.alloc hbase o
  have hll : (l ++ List.replicate k 0).length = n + k := by rw [List.length_append, List.length_replicate, hlen]
  rcases hown.2 with ⟨rfl, rfl⟩ | ⟨g, cap, cur, rfl, hbg, hg, hnc, hcm, hcs, htake⟩
  · obtain rfl : l = [] := List.eq_nil_of_length_eq_zero hlen
    by_cases hk : k = 0
    · subst hk
      refine ⟨.slice none 0 0, w, ?_, World.ownsRow_nil _ _ _ _, Below.refl _ _⟩
      simp [Builtin.append_, run_underlying hs, run_underlying hn, sizeOf, typeInfo, hi, asInt, asIntOf, hw0]
    · have hr := Lib.run_append_nil_zeros (P := Tryz.prog) w 22 3 ty 5 i0 (.int .u8 0) .i64 .i64 hs hn hi hz0 k (by omega) (by rw [hz1]; decide) (by omega) (by rw [hz2]; omega)
      rw [zeros_bv] at hr
      refine ⟨_, _, hr, ?_, hlow _⟩
      have hc := hcap 0
      rw [Nat.zero_add] at hc ⊢
      exact owns_fresh w.drew base _ k _ _ (by simp) (by rw [size_zeroCells]; simp [Value.cells]; omega) hc.2 hbase
  · rw [Nat.mul_one] at hcs htake
    by_cases hroom : n + k ≤ cap
    · by_cases hk : k = 0
      · subst hk
        refine ⟨.slice (some ⟨g, 0, none⟩) n cap, w, ?_, by rw [List.replicate_zero, List.append_nil]; exact hown, Below.refl _ _⟩
        simp [Builtin.append_, run_underlying hs, run_underlying hn, sizeOf, typeInfo, hi, asInt, asIntOf, hw0, hnc, storeCells]
      · have hst := run_storeCells_at Tryz.prog g n 5 (bv (List.replicate k 0)) 0 cur w hg (by rw [bv_length, List.length_replicate]; omega) (bv_one _)
        simp only [Nat.add_zero] at hst
        have hneg : ¬ ((k : Int) < 0) := by omega
        have h48 : ¬ (281474976710656 < (k : Int)) := by omega
        have hzz := zeros_bv k
        refine ⟨_, w.setRow g (cur.toList.take n ++ bv (List.replicate k 0) ++ cur.toList.drop (n + k)).toArray, ?_, ⟨by rw [bv_length, hll, Nat.mul_one], .inr ⟨g, cap, _, rfl, hbg, setRow_heap w g cur _ 5 _ hg, hroom, hcm, ?_, ?_⟩⟩, ?_⟩
        · simp only [bv_length, List.length_replicate] at hst
          simp [Builtin.append_, run_underlying hs, run_underlying hn, sizeOf, typeInfo, zeroValue, hi, hz0, hz1, hz2, asInt, asIntOf, hw, hneg, h48, hk, hroom, hzz, Addr.add_lit, hst]
        · rw [List.size_toArray, List.length_append, List.length_append, List.length_take, List.length_drop, Array.length_toList, bv_length, List.length_replicate]; omega
        · rw [htake, bv_append, Nat.mul_one]
          exact List.take_left' (by rw [List.length_append, bv_length, bv_length, List.length_replicate, hlen])
        · exact below_setRow (Below.refl _ _) hbg _
    · have hk : 0 < k := by omega
      have hold := run_firstCells_some (P := Tryz.prog) w.drew i0.size n ⟨g, 0, none⟩ n cap (bv l) (by rw [bv_length, hz1, hlen, Nat.mul_one]) (hown.cells (g := g) rfl)
      have hr := Lib.run_append_grow_zeros (P := Tryz.prog) w 22 3 ty 5 i0 (.int .u8 0) .i64 .i64 hs hn hi hz0 (some ⟨g, 0, none⟩) n cap (bv l) hold k hk (by rw [hz1]; decide) (by omega) (by omega) (by rw [hz2]; omega) (by rw [hz2]; exact growslice_fits (by omega) (by omega))
      rw [zeros_bv k, show (bv l).toArray ++ (bv (List.replicate k 0)).toArray = (bv (l ++ List.replicate k 0)).toArray from by rw [bv_append]; simp] at hr
      refine ⟨_, _, hr, ?_, hlow _⟩
      have hc := hcap cap
      exact owns_fresh w.drew base _ (n + k) _ _ hll (by rw [size_zeroCells]; simp [Value.cells]; omega) hc.2 hbase
set_option maxRecDepth 100000 in
theorem wpList_app_zeros {ops : Array Oper} {rest : List Oper} {o : Oper} {a : Act} {w : World} {Q : Exit → Act → World → Prop} (hgd : o.guard = none) (s x : Operand)
    (ho : o.op = .call { callee := .builtin .append, args := #[s, x], argTypes := #[22, 3] })
    (base n k : Nat) (v : Value) (l : List Int) (hs : a.eval s = v) (hx : a.eval x = .int .i64 k) (hown : w.ownsRow base 5 1 v n (bv l)) (hbd : n + k ≤ 1099511627776) (hbase : base ≤ w.heap.size)
    (h : ∀ v' w', w'.ownsRow base 5 1 v' (n + k) (bv (l ++ List.replicate k 0)) → Below base w w' → wpList Tryz.prog ops Q rest (a.put o.dst v') w') : wpList Tryz.prog ops Q (o :: rest) a w := by
  obtain ⟨v', w', hr, h1, h2⟩ := app_zeros w o.type base n k v l hown hbd hbase
  exact Lib.wpList_append_run w hgd s x 22 3 ho v (.int .i64 k) hs hx v' w' hr (h v' w' h1 h2)
end Go.Proofs.YtpfijaojgeceeaaGreatDoor
