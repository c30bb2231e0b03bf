/- A number, a byte, an event, read. -/
import Derived.Test.YtbapegdmpipllaaHMem
import Derived.Test.YtbapegdmpipllaaHistText2
import Derived.Test.YtbapegdmpipllaaVar
import Derived.Test.YtbapegdmpipllaaZig
import Derived.Test.YtbapegdmpipllaaSlc
import Derived.BigQuiet
import Derived.Deep.CutRange
namespace Go.Proofs.Ytbapegdmpipllaa
open Go.RowKit
set_option linter.unusedVariables false

/-- how many bytes a short number has -/
def rdn (l : List Int) : Nat := (rd l 0 0).2.1.toNat
set_option maxRecDepth 100000 in
theorem rdn_bd {l : List Int} (hb : Byt l) : rdn l ≤ l.length ∧ (rd l 0 0).2.1 = (rdn l : Int) := by
  unfold rdn
  by_cases he : (rd l 0 0).2.2 = 0
  · rcases hr : rd l 0 0 with ⟨x, n, e⟩
    rw [hr] at he
    simp only at he
    subst he
    obtain ⟨m, _, h2, h3, _⟩ := rd_back hb hr
    simp only
    omega
  · rw [(rd_err l 0 0 he).2]; simp
set_option maxHeartbeats 400000 in
theorem rnum_any (a : Option Addr) (len cap : Nat) (l : List Int) (v w : World) (h : Bts v a len cap l) (hvw : Below v.heap.size v w) :
    Calls Try.prog 38 #[.slice a len cap] w fun e w' => ∃ a', e = .returned (.tuple #[.int .u64 (rd l 0 0).1, .slice a' (len - rdn l) (cap - rdn l), .int .i64 (rd l 0 0).2.2]) ∧ Bts v a' (len - rdn l) (cap - rdn l) (l.drop (rdn l)) ∧ ∃ q, w' = w.drewN q := by
  have H := Bx.mk (h.below hvw)
  have hbd := rdn_bd h.byt
  rw [h.len_eq] at hbd
  have hsl := run_sl_l a len cap (rdn l) (rd l 0 0).2.1 hbd.2 hbd.1
  have HR := Bx.mk (h.rest (rdn l) hbd.1)
  have hm := Nat.le_trans h.le_cap h.cap_le
  unfold maxLen at hm
  generalize slA a (rdn l) cap = a' at hsl HR
  clear h hbd hvw
  go_enter Try.func38, Try.ntmps38
  go_wp2_with fail
  refine (readvar_any a len cap l _ H.out).mono ?_
  rintro e wz ⟨rfl, rfl⟩
  unfold rdVal
  generalize (rd l 0 0).2.1 = n at hsl
  obtain ⟨x, HX⟩ : ∃ x, Bx (x = (rd l 0 0).1) := ⟨_, ⟨rfl⟩⟩
  obtain ⟨ee, HE⟩ : ∃ ee, Bx (ee = (rd l 0 0).2.2) := ⟨_, ⟨rfl⟩⟩
  rw [← HX.out, ← HE.out]
  go_wp2_with fail
  go_quiet (fail)
  go_wp2_with fail
  go_ret3
  exact ⟨a', by rw [← HX.out, ← HE.out]; rfl, HR.out, _, rfl⟩
set_option maxRecDepth 100000 in
theorem rbyte_short (a : Option Addr) (cap : Nat) (top : Int) (w : World) :
    Calls Try.prog 41 #[.slice a 0 cap, .int .i64 top] w fun e w' => e = .returned (.tuple #[.int .i64 0, .slice none 0 0, .int .i64 3]) ∧ w = w' := by
  go_enter Try.func41, Try.ntmps41
  go_wp2
  go_ret3
  exact ⟨rfl, rfl⟩
set_option maxHeartbeats 400000 in
theorem rbyte_form (a : Option Addr) (len cap : Nat) (l : List Int) (top : Int) (w : World) (h : Bts w a len cap l) (hl : 0 < len) (ht : top < l.getD 0 0) :
    Calls Try.prog 41 #[.slice a len cap, .int .i64 top] w fun e w' => e = .returned (.tuple #[.int .i64 0, .slice none 0 0, .int .i64 4]) ∧ w = w' := by
  obtain ⟨b, off, rfl, _, hc⟩ := h.spot hl
  have x0 := hc 0 hl
  rw [Nat.add_zero] at x0
  have hb0 := h.byt.getD 0
  have hm := Nat.le_trans h.le_cap h.cap_le
  unfold maxLen at hm
  have hq : ((len : Int) == 0) = false := by simp; omega
  have hlI : (0 : Int) < (len : Int) := by omega
  generalize l.getD 0 0 = c at x0 ht hb0
  clear hc
  go_enter Try.func41, Try.ntmps41
  go_wp2
  go_ret3
  exact ⟨rfl, rfl⟩
set_option maxHeartbeats 400000 in
theorem rbyte_ok (a : Option Addr) (len cap : Nat) (l : List Int) (top : Int) (v w : World) (h : Bts v a len cap l) (hvw : Below v.heap.size v w) (hl : 0 < len) (ht : ¬ top < l.getD 0 0) :
    Calls Try.prog 41 #[.slice a len cap, .int .i64 top] w fun e w' => ∃ a', e = .returned (.tuple #[.int .i64 (l.getD 0 0), .slice a' (len - 1) (cap - 1), .int .i64 0]) ∧ Bts v a' (len - 1) (cap - 1) (l.drop 1) ∧ ∃ q, w' = w.drewN q := by
  have hsl := run_sl_l a len cap 1 1 rfl hl
  have HR := Bx.mk (h.rest 1 hl)
  generalize slA a 1 cap = a' at hsl HR
  obtain ⟨b, off, rfl, _, hc⟩ := (h.below hvw).spot hl
  have x0 := hc 0 hl
  rw [Nat.add_zero] at x0
  have hb0 := h.byt.getD 0
  have hm := Nat.le_trans h.le_cap h.cap_le
  unfold maxLen at hm
  have hq : ((len : Int) == 0) = false := by simp; omega
  have hlI : (0 : Int) < (len : Int) := by omega
  generalize l.getD 0 0 = c at x0 ht hb0
  clear hc h hvw
  go_enter Try.func41, Try.ntmps41
  go_wp2_with fail
  go_quiet (fail)
  go_wp2_with fail
  go_ret3
  exact ⟨a', rfl, HR.out, _, rfl⟩
/-- an event in a variable -/
def EB (w : World) (g : Nat) (x : Ev) : Prop := w.heap[g]? = some (.cells (evC x).toArray 55 (0, 0))
set_option maxRecDepth 100000 in
theorem EB.at {w : World} {g : Nat} {x : Ev} (h : EB w g x) : w.cell? ⟨g, 0, none⟩ = some (.int .i64 x.c) ∧ w.cell? ⟨g, 1, none⟩ = some (.bool x.k) ∧ w.cell? ⟨g, 2, none⟩ = some (.int .i64 x.o) ∧ w.cell? ⟨g, 3, none⟩ = some (.int .i64 x.v) :=
  ⟨cell_of_row _ g 0 _ _ (0, 0) h, cell_of_row _ g 1 _ _ (0, 0) h, cell_of_row _ g 2 _ _ (0, 0) h, cell_of_row _ g 3 _ _ (0, 0) h⟩
set_option maxRecDepth 100000 in
theorem EB.fr {w : World} {g : Nat} {x : Ev} (h : EB w g x) (j : Nat) : w.frozen? ⟨g, j, none⟩ = false := frozen_of_row _ g j _ _ h
set_option maxRecDepth 100000 in
theorem EB.lt {w : World} {g : Nat} {x : Ev} (h : EB w g x) : g < w.heap.size := (Array.getElem?_eq_some_iff.1 h).1
set_option maxRecDepth 100000 in
theorem EB.below {w w' : World} {g : Nat} {x : Ev} (h : EB w g x) (hb : Below w.heap.size w w') : EB w' g x := (hb.block g h.lt).trans h
set_option maxRecDepth 100000 in
theorem EB.other {w : World} {g g' : Nat} {x : Ev} (h : EB w g x) (hne : g ≠ g') (j : Nat) (u : Value) : EB (w.setCell ⟨g', j, none⟩ u) g x := (heap_setCell_other w ⟨g', j, none⟩ g u hne).trans h
set_option maxRecDepth 100000 in
theorem EB.set2 {w : World} {g : Nat} {x : Ev} (h : EB w g x) (o : Int) : EB (w.setCell ⟨g, 2, none⟩ (.int .i64 o)) g ⟨x.c, x.k, o, x.v⟩ := heap_setCell_same w g 2 _ _ _ h
set_option maxRecDepth 100000 in
theorem EB.set3 {w : World} {g : Nat} {x : Ev} (h : EB w g x) (v : Int) : EB (w.setCell ⟨g, 3, none⟩ (.int .i64 v)) g ⟨x.c, x.k, x.o, v⟩ := heap_setCell_same w g 3 _ _ _ h
set_option maxRecDepth 100000 in
theorem EB.put {w : World} {g : Nat} {x : Ev} (h : EB w g x) (c : Int) (k : Bool) (o v : Int) : EB ((((w.setCell ⟨g, 0, none⟩ (.int .i64 c)).setCell ⟨g, 1, none⟩ (.bool k)).setCell ⟨g, 2, none⟩ (.int .i64 o)).setCell ⟨g, 3, none⟩ (.int .i64 v)) g ⟨c, k, o, v⟩ :=
  heap_setCell_same _ g 3 _ _ _ (heap_setCell_same _ g 2 _ _ _ (heap_setCell_same _ g 1 _ _ _ (heap_setCell_same w g 0 _ _ _ h)))
set_option maxRecDepth 100000 in
theorem eb_new (w : World) (c : Int) (k : Bool) (o v : Int) : EB (w.alloc (.cells #[.int .i64 c, .bool k, .int .i64 o, .int .i64 v] 55)) w.heap.size ⟨c, k, o, v⟩ := heap_alloc_new w _
end Go.Proofs.Ytbapegdmpipllaa
