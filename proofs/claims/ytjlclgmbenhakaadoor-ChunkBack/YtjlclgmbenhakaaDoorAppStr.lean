/- A text's bytes behind an own row: 'append(b, s...)', and where it lies then. -/
import Derived.Test.YtjlclgmbenhakaaDoorAppL
import Derived.Lib.AppendStr
namespace Go.Proofs.YtjlclgmbenhakaaDoor
open Go.RowKit
set_option linter.unusedVariables false

set_option maxRecDepth 100000 in
theorem strCells_bv (s : ByteArray) : Lib.strCells s = bv (strL s) := by
  unfold Lib.strCells bv strL
  rw [List.map_map]; rfl
set_option maxRecDepth 100000 in
theorem app_str (w : World) (ty : TypeId) (base n : Nat) (v : Value) (l : List Int) (t : ByteArray) (hown : w.ownsRow base 5 1 v n (bv l)) (ht : 0 < t.size) (h63 : n + t.size ≤ 70368744177664) (hbase : base ≤ w.heap.size) :
    ∃ v' w', (Builtin.append_ #[22, 9] ty #[v, .string t]).run Tryd.prog w = .ok v' w' ∧ w'.ownsRow base 5 1 v' (n + t.size) (bv (l ++ strL t)) ∧ Kept (fun k => v.ownBlock = some k) w w' ∧ Lies v v' w.heap.size := by
  obtain ⟨i0, hi, hz0, hz1, hz2⟩ := info_parts Tryd.info5
  obtain ⟨v', w', hr, ho, hg, _⟩ := Lib.run_append_own_string (P := Tryd.prog) w base 22 9 ty 5 i0 Tryd.underlying22 Tryd.underlying9 hi hz0 hz1 hz2 v n (bv l) hown t (by unfold maxLen; omega) (by omega) hbase
  rw [strCells_bv, ← bv_append] at ho
  refine ⟨v', w', hr, ho, Kept.of_grown hg, ?_⟩
  have key : ∀ (g len cap : Nat) (W : World), (Builtin.append_ #[22, 9] ty #[v, .string t]).run Tryd.prog w = .ok (.slice (some ⟨g, 0, none⟩) len cap) W → (v.ownBlock = some g ∨ w.heap.size ≤ g) → Lies v v' w.heap.size := fun g len cap W h1 h2 k hk => by
    rw [hr] at h1
    cases h1
    obtain rfl : g = k := by simpa [Value.ownBlock] using hk
    exact h2
  rcases hown.2 with ⟨rfl, rfl⟩ | ⟨g, cap, cur, rfl, hbg, hgg, hnc, hcm, hcs, htake⟩
  · exact key _ _ _ _ (run_append_nil_string (P := Tryd.prog) w 22 9 ty 5 i0 (.int .u8 0) Tryd.underlying22 Tryd.underlying9 hi hz0 t ht (by omega) (by rw [hz2]; omega)) (.inr (Nat.le_refl _))
  · have hln : l.length = n := by have := hown.1; rw [bv_length, Nat.mul_one] at this; exact this
    by_cases hroom : n + t.size ≤ cap
    · exact key _ _ _ _ (Lib.run_append_room_string (P := Tryd.prog) w 22 9 ty 5 i0 Tryd.underlying22 Tryd.underlying9 hi hz1 g n cap cur hgg t hroom (by omega)) (.inl rfl)
    · exact key _ _ _ _ (Lib.run_append_grow_string (P := Tryd.prog) w 22 9 ty 5 i0 (.int .u8 0) Tryd.underlying22 Tryd.underlying9 hi hz0 ⟨g, 0, none⟩ n cap (bv l) (by rw [bv_length, hz1, hln, Nat.mul_one]) (hown.cells (g := g) rfl) t (by omega) (by omega) (by rw [hz2]; exact growslice_fits (by omega) (by omega))) (.inr (Nat.le_refl _))
set_option maxRecDepth 100000 in
theorem wpList_append_str {ops : Array Oper} {rest : List Oper} {o : Oper} {a : Act} {w : World} {Q : Exit → Act → World → Prop} (hgd : o.guard = none) (s x : Operand)
    (ho : o.op = .call { callee := .builtin .append, args := #[s, x], argTypes := #[22, 9] })
    (base n : Nat) (v : Value) (l : List Int) (hs : a.eval s = v) (hown : w.ownsRow base 5 1 v n (bv l))
    (t : ByteArray) (hx : a.eval x = .string t) (ht : 0 < t.size) (h63 : n + t.size ≤ 70368744177664) (hbase : base ≤ w.heap.size)
    (h : ∀ v' w', w'.ownsRow base 5 1 v' (n + t.size) (bv (l ++ strL t)) → Kept (fun k => v.ownBlock = some k) w w' → Lies v v' w.heap.size → wpList Tryd.prog ops Q rest (a.put o.dst v') w') : wpList Tryd.prog ops Q (o :: rest) a w := by
  obtain ⟨v', w', hr, h1, h2, h3⟩ := app_str w o.type base n v l t hown ht h63 hbase
  refine wpList_plain hgd fun K hK => ?_
  unfold Oper.wp execOp
  simp only [ho, resolve, invoke, builtin, Sem.run_bind, Sem.run_pure, Result.andThen_ok, List.map_toArray, List.map_cons, List.map_nil, hs, hx, hr]
  exact hK _ _ (h v' w' h1 h2 h3)
set_option maxRecDepth 100000 in
theorem Kept.belowB {w w' : World} {base n : Nat} {v : Value} {e : TypeId} {k : Nat} {xs : List Value} (h : Kept (fun k => v.ownBlock = some k) w w') (hown : w.ownsRow base e k v n xs) (hb : base ≤ w.heap.size) : Below base w w' := h.low (fun k hk => (hown.lt k hk).1) hb
end Go.Proofs.YtjlclgmbenhakaaDoor
