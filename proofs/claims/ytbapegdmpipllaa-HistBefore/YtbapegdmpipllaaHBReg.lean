/- What is before (HistBefore): three operations are looked up and put into three variables, in whatever order. -/
import Derived.Test.YtbapegdmpipllaaNewVar
import Derived.Test.YtbapegdmpipllaaHFew
import Derived.Test.YtbapegdmpipllaaLeast
import Derived.Deep.RegionHeld3
import Derived.Deep.MidRow
namespace Go.Proofs.Ytbapegdmpipllaa
open Go.RowKit
set_option linter.unusedVariables false

set_option maxRecDepth 100000 in
theorem op_zero : (Try.prog.info? 53).map (fun i => i.zero.map (·.cells.size)) = some (some 7) := by kernel_rfl
set_option maxRecDepth 100000 in
theorem op_info : (Try.prog.info? 53).map (·.size) = some 7 := by kernel_rfl
set_option maxRecDepth 100000 in
theorem or_cells (p : Opr) : (orC p).toArray.all (·.oneCell') = true := by
  rw [Array.all_eq_true_iff_forall_mem]
  intro u hu
  exact orC_one p u (by simpa using hu)
set_option maxRecDepth 100000 in
theorem hb_least (i : Int) (n n1 : Nat) (e : leastV i 0 ((n : Int) - 1) = n1) (w : World) : Calls Try.prog 25 #[.int .i64 i, .int .i64 0, .int .i64 ((n : Int) - 1)] w fun r w' => r = .returned (.int .i64 (n1 : Int)) ∧ w' = w :=
  (least_any i 0 ((n : Int) - 1) w).mono fun r w' ⟨h1, h2⟩ => ⟨by rw [h1, e], h2.symm⟩
abbrev hbNO0 : Oper := { dst := some 32, op := Op.move (Operand.tmp 9), type := 45, pos := "law.go:111", after := #[], guard := none }
abbrev hbNO1 : Oper := { dst := some 33, op := Op.move (Operand.tmp 1), type := 3, pos := "law.go:111", after := #[], guard := none }
abbrev hbNO2 : Oper := { dst := some 34, op := Op.move (Operand.tmp 9), type := 45, pos := "law.go:111", after := #[], guard := none }
abbrev hbNO3 : Oper := { dst := some 35, op := Op.call { callee := Callee.builtin Builtin.len, args := #[Operand.tmp 34], argTypes := #[45] }, type := 3, pos := "law.go:111", after := #[{ on := 2, ground := Ground.data }], guard := none }
abbrev hbNO4 : Oper := { dst := some 36, op := Op.binOp BinOp.sub 3 (Operand.tmp 35) (Operand.const (Value.int IntKind.i64 1)) 3, type := 3, pos := "law.go:111", after := #[{ on := 3, ground := Ground.data }], guard := none }
abbrev hbNO5 : Oper := { dst := some 37, op := Op.call { callee := Callee.value (Operand.func 25), args := #[Operand.tmp 33, Operand.const (Value.int IntKind.i64 0), Operand.tmp 36], argTypes := #[3, 3, 3] }, type := 3, pos := "law.go:111", after := #[{ on := 1, ground := Ground.data }, { on := 4, ground := Ground.data }], guard := none }
abbrev hbNO6 : Oper := { dst := some 38, op := Op.indexAddr 45 (Operand.tmp 32) (Operand.tmp 37), type := 0, pos := "law.go:111", after := #[{ on := 0, ground := Ground.data }, { on := 5, ground := Ground.data }], guard := none }
abbrev hbNO7 : Oper := { dst := some 39, op := Op.load 53 (Operand.tmp 38), type := 53, pos := "law.go:111", after := #[{ on := 6, ground := Ground.data }], guard := none }
abbrev hbNO8 : Oper := { dst := some 40, op := Op.move (Operand.tmp 9), type := 45, pos := "law.go:111", after := #[{ on := 27, ground := Ground.gcOnly Departure.lateStores }], guard := none }
abbrev hbNO9 : Oper := { dst := some 41, op := Op.move (Operand.tmp 2), type := 3, pos := "law.go:111", after := #[], guard := none }
abbrev hbNO10 : Oper := { dst := some 42, op := Op.move (Operand.tmp 9), type := 45, pos := "law.go:111", after := #[], guard := none }
abbrev hbNO11 : Oper := { dst := some 43, op := Op.call { callee := Callee.builtin Builtin.len, args := #[Operand.tmp 42], argTypes := #[45] }, type := 3, pos := "law.go:111", after := #[{ on := 10, ground := Ground.data }], guard := none }
abbrev hbNO12 : Oper := { dst := some 44, op := Op.binOp BinOp.sub 3 (Operand.tmp 43) (Operand.const (Value.int IntKind.i64 1)) 3, type := 3, pos := "law.go:111", after := #[{ on := 11, ground := Ground.data }], guard := none }
abbrev hbNO13 : Oper := { dst := some 45, op := Op.call { callee := Callee.value (Operand.func 25), args := #[Operand.tmp 41, Operand.const (Value.int IntKind.i64 0), Operand.tmp 44], argTypes := #[3, 3, 3] }, type := 3, pos := "law.go:111", after := #[{ on := 9, ground := Ground.data }, { on := 12, ground := Ground.data }, { on := 5, ground := Ground.chain }], guard := none }
abbrev hbNO14 : Oper := { dst := some 46, op := Op.indexAddr 45 (Operand.tmp 40) (Operand.tmp 45), type := 0, pos := "law.go:111", after := #[{ on := 8, ground := Ground.data }, { on := 13, ground := Ground.data }, { on := 27, ground := Ground.gcOnly Departure.lateStores }], guard := none }
abbrev hbNO15 : Oper := { dst := some 47, op := Op.load 53 (Operand.tmp 46), type := 53, pos := "law.go:111", after := #[{ on := 14, ground := Ground.data }, { on := 27, ground := Ground.gcOnly Departure.lateStores }], guard := none }
abbrev hbNO16 : Oper := { dst := some 48, op := Op.move (Operand.tmp 9), type := 45, pos := "law.go:111", after := #[{ on := 28, ground := Ground.gcOnly Departure.lateStores }], guard := none }
abbrev hbNO17 : Oper := { dst := some 49, op := Op.move (Operand.tmp 3), type := 3, pos := "law.go:111", after := #[], guard := none }
abbrev hbNO18 : Oper := { dst := some 50, op := Op.move (Operand.tmp 9), type := 45, pos := "law.go:111", after := #[], guard := none }
abbrev hbNO19 : Oper := { dst := some 51, op := Op.call { callee := Callee.builtin Builtin.len, args := #[Operand.tmp 50], argTypes := #[45] }, type := 3, pos := "law.go:111", after := #[{ on := 18, ground := Ground.data }], guard := none }
abbrev hbNO20 : Oper := { dst := some 52, op := Op.binOp BinOp.sub 3 (Operand.tmp 51) (Operand.const (Value.int IntKind.i64 1)) 3, type := 3, pos := "law.go:111", after := #[{ on := 19, ground := Ground.data }], guard := none }
abbrev hbNO21 : Oper := { dst := some 53, op := Op.call { callee := Callee.value (Operand.func 25), args := #[Operand.tmp 49, Operand.const (Value.int IntKind.i64 0), Operand.tmp 52], argTypes := #[3, 3, 3] }, type := 3, pos := "law.go:111", after := #[{ on := 17, ground := Ground.data }, { on := 20, ground := Ground.data }, { on := 13, ground := Ground.chain }], guard := none }
abbrev hbNO22 : Oper := { dst := some 54, op := Op.indexAddr 45 (Operand.tmp 48) (Operand.tmp 53), type := 0, pos := "law.go:111", after := #[{ on := 16, ground := Ground.data }, { on := 21, ground := Ground.data }, { on := 28, ground := Ground.gcOnly Departure.lateStores }], guard := none }
abbrev hbNO23 : Oper := { dst := some 55, op := Op.load 53 (Operand.tmp 54), type := 53, pos := "law.go:111", after := #[{ on := 22, ground := Ground.data }, { on := 28, ground := Ground.gcOnly Departure.lateStores }], guard := none }
abbrev hbNO24 : Oper := { dst := some 11, op := Op.alloc 53, type := 0, pos := "law.go:111", after := #[], guard := none }
abbrev hbNO25 : Oper := { dst := some 12, op := Op.alloc 53, type := 0, pos := "law.go:111", after := #[], guard := none }
abbrev hbNO26 : Oper := { dst := some 13, op := Op.alloc 53, type := 0, pos := "law.go:111", after := #[], guard := none }
abbrev hbNO27 : Oper := { dst := none, op := Op.store 53 (Operand.tmp 11) (Operand.tmp 39), type := 0, pos := "law.go:111", after := #[{ on := 24, ground := Ground.data }, { on := 7, ground := Ground.data }, { on := 21, ground := Ground.chain }, { on := 0, ground := Ground.phase }, { on := 1, ground := Ground.phase }, { on := 2, ground := Ground.phase }, { on := 3, ground := Ground.phase }, { on := 4, ground := Ground.phase }, { on := 5, ground := Ground.phase }, { on := 6, ground := Ground.phase }, { on := 7, ground := Ground.phase }, { on := 8, ground := Ground.textOnly Departure.lateStores }, { on := 9, ground := Ground.textOnly Departure.lateStores }, { on := 10, ground := Ground.textOnly Departure.lateStores }, { on := 11, ground := Ground.textOnly Departure.lateStoresUnsure }, { on := 12, ground := Ground.textOnly Departure.lateStores }, { on := 13, ground := Ground.textOnly Departure.lateStoresUnsure }, { on := 14, ground := Ground.textOnly Departure.lateStores }, { on := 15, ground := Ground.textOnly Departure.lateStores }, { on := 16, ground := Ground.textOnly Departure.lateStores }, { on := 17, ground := Ground.textOnly Departure.lateStores }, { on := 18, ground := Ground.textOnly Departure.lateStores }, { on := 19, ground := Ground.textOnly Departure.lateStoresUnsure }, { on := 20, ground := Ground.textOnly Departure.lateStores }, { on := 21, ground := Ground.textOnly Departure.lateStoresUnsure }, { on := 22, ground := Ground.textOnly Departure.lateStores }, { on := 23, ground := Ground.textOnly Departure.lateStores }, { on := 24, ground := Ground.phase }, { on := 25, ground := Ground.phase }, { on := 26, ground := Ground.phase }], guard := none }
abbrev hbNO28 : Oper := { dst := none, op := Op.store 53 (Operand.tmp 12) (Operand.tmp 47), type := 0, pos := "law.go:111", after := #[{ on := 25, ground := Ground.data }, { on := 15, ground := Ground.data }, { on := 27, ground := Ground.chain }, { on := 0, ground := Ground.phase }, { on := 1, ground := Ground.phase }, { on := 2, ground := Ground.phase }, { on := 3, ground := Ground.phase }, { on := 4, ground := Ground.phase }, { on := 5, ground := Ground.phase }, { on := 6, ground := Ground.phase }, { on := 7, ground := Ground.phase }, { on := 8, ground := Ground.phase }, { on := 9, ground := Ground.phase }, { on := 10, ground := Ground.phase }, { on := 11, ground := Ground.phase }, { on := 12, ground := Ground.phase }, { on := 13, ground := Ground.phase }, { on := 14, ground := Ground.phase }, { on := 15, ground := Ground.phase }, { on := 16, ground := Ground.textOnly Departure.lateStores }, { on := 17, ground := Ground.textOnly Departure.lateStores }, { on := 18, ground := Ground.textOnly Departure.lateStores }, { on := 19, ground := Ground.textOnly Departure.lateStoresUnsure }, { on := 20, ground := Ground.textOnly Departure.lateStores }, { on := 21, ground := Ground.textOnly Departure.lateStoresUnsure }, { on := 22, ground := Ground.textOnly Departure.lateStores }, { on := 23, ground := Ground.textOnly Departure.lateStores }, { on := 24, ground := Ground.phase }, { on := 25, ground := Ground.phase }, { on := 26, ground := Ground.phase }, { on := 27, ground := Ground.phase }], guard := none }
abbrev hbNO29 : Oper := { dst := none, op := Op.store 53 (Operand.tmp 13) (Operand.tmp 55), type := 0, pos := "law.go:111", after := #[{ on := 26, ground := Ground.data }, { on := 23, ground := Ground.data }, { on := 28, ground := Ground.chain }, { on := 0, ground := Ground.phase }, { on := 1, ground := Ground.phase }, { on := 2, ground := Ground.phase }, { on := 3, ground := Ground.phase }, { on := 4, ground := Ground.phase }, { on := 5, ground := Ground.phase }, { on := 6, ground := Ground.phase }, { on := 7, ground := Ground.phase }, { on := 8, ground := Ground.phase }, { on := 9, ground := Ground.phase }, { on := 10, ground := Ground.phase }, { on := 11, ground := Ground.phase }, { on := 12, ground := Ground.phase }, { on := 13, ground := Ground.phase }, { on := 14, ground := Ground.phase }, { on := 15, ground := Ground.phase }, { on := 16, ground := Ground.phase }, { on := 17, ground := Ground.phase }, { on := 18, ground := Ground.phase }, { on := 19, ground := Ground.phase }, { on := 20, ground := Ground.phase }, { on := 21, ground := Ground.phase }, { on := 22, ground := Ground.phase }, { on := 23, ground := Ground.phase }, { on := 24, ground := Ground.phase }, { on := 25, ground := Ground.phase }, { on := 26, ground := Ground.phase }, { on := 27, ground := Ground.phase }, { on := 28, ground := Ground.phase }], guard := none }
/-- the region's operations -/
abbrev hbNR : Array Oper := #[hbNO0, hbNO1, hbNO2, hbNO3, hbNO4, hbNO5, hbNO6, hbNO7, hbNO8, hbNO9, hbNO10, hbNO11, hbNO12, hbNO13, hbNO14, hbNO15, hbNO16, hbNO17, hbNO18, hbNO19, hbNO20, hbNO21, hbNO22, hbNO23, hbNO24, hbNO25, hbNO26, hbNO27, hbNO28, hbNO29]
set_option maxRecDepth 100000 in
set_option maxHeartbeats 1000000 in
theorem hbN0 (w3 : World) (a2 : Option Addr) (m2 c2 : Nat) (i j k : Int) (b off n c3 : Nat) (a0 : Option Addr) (len0 cap0 : Nat) (p1 p2 p3 : Opr) (n1 n2 n3 : Nat) (h1 : n1 < n) (h2 : n2 < n) (h3 : n3 < n) (hn : n ≤ 64) (hbl : b < w3.heap.size) (r1 : w3.rangeAt b (off + n1 * 7) (orC p1)) (r2 : w3.rangeAt b (off + n2 * 7) (orC p2)) (r3 : w3.rangeAt b (off + n3 * 7) (orC p3)) (e1 : leastV i 0 ((n : Int) - 1) = n1) (e2 : leastV j 0 ((n : Int) - 1) = n2) (e3 : leastV k 0 ((n : Int) - 1) = n3) (hw : IntKind.i64.wrap ((n : Int) - 1) = (n : Int) - 1) {Q : Exit → Act → World → Prop} (hP : ∀ (d : Option Tmp) (v : Value) (c : List PanicEntry) (a : Act) (w : World), Q (.panic c) (a.put d v) w → Q (.panic c) a w) (hQ : ∀ (wk : World) (hk : (fun W : World => Below w3.heap.size w3 W) wk) (ga : Nat) (hga : wk.heap[ga]? = some (.cells (orC p1).toArray 53 (0, 0))) (qga : w3.heap.size ≤ ga) (gb : Nat) (hgb : wk.heap[gb]? = some (.cells (orC p2).toArray 53 (0, 0))) (qgb : w3.heap.size ≤ gb) (gc : Nat) (hgc : wk.heap[gc]? = some (.cells (orC p3).toArray 53 (0, 0))) (qgc : w3.heap.size ≤ gc) (ngagb : ga ≠ gb) (ngagc : ga ≠ gc) (ngbgc : gb ≠ gc), Q .normal { tmps := #[.slice a2 m2 c2, .int .i64 i, .int .i64 j, .int .i64 k, undef, undef, undef, undef, .bool false, .slice (some ⟨b, off, none⟩) n c3, .int .i64 0, .pointer (some ⟨ga, 0, none⟩), .pointer (some ⟨gb, 0, none⟩), .pointer (some ⟨gc, 0, none⟩), undef, undef, undef, .slice a0 len0 cap0, .slice a2 m2 c2, .tuple #[.slice (some ⟨b, off, none⟩) n c3, .int .i64 0], .slice a2 m2 c2, .tuple #[.slice (some ⟨b, off, none⟩) n c3, .int .i64 0], .slice (some ⟨b, off, none⟩) n c3, .int .i64 0, .int .i64 0, .bool false, .bool false, .slice (some ⟨b, off, none⟩) n c3, .int .i64 (n : Int), .bool false, .bool false, undef, .slice (some ⟨b, off, none⟩) n c3, .int .i64 i, .slice (some ⟨b, off, none⟩) n c3, .int .i64 (n : Int), .int .i64 ((n : Int) - 1), .int .i64 (n1 : Int), .pointer (some ⟨b, off + n1 * 7, none⟩), .agg (orC p1).toArray, .slice (some ⟨b, off, none⟩) n c3, .int .i64 j, .slice (some ⟨b, off, none⟩) n c3, .int .i64 (n : Int), .int .i64 ((n : Int) - 1), .int .i64 (n2 : Int), .pointer (some ⟨b, off + n2 * 7, none⟩), .agg (orC p2).toArray, .slice (some ⟨b, off, none⟩) n c3, .int .i64 k, .slice (some ⟨b, off, none⟩) n c3, .int .i64 (n : Int), .int .i64 ((n : Int) - 1), .int .i64 (n3 : Int), .pointer (some ⟨b, off + n3 * 7, none⟩), .agg (orC p3).toArray, undef, undef, undef, undef, undef, undef, undef, undef, undef, undef, undef, undef, undef, undef, undef, undef, undef, undef, undef, undef, undef, undef, undef, undef, undef, undef, undef, undef, undef, undef, undef, undef, undef, undef, undef, undef, undef, undef], defers := [] } wk) (wk : World) (hk : (fun W : World => Below w3.heap.size w3 W) wk) (ga : Nat) (hga : wk.heap[ga]? = some (.cells (orC p1).toArray 53 (0, 0))) (qga : w3.heap.size ≤ ga) (gb : Nat) (hgb : wk.heap[gb]? = some (.cells (orC p2).toArray 53 (0, 0))) (qgb : w3.heap.size ≤ gb) (gc : Nat) (hgc : wk.heap[gc]? = some (.cells (orC p3).toArray 53 (0, 0))) (qgc : w3.heap.size ≤ gc) (ngagb : ga ≠ gb) (ngagc : ga ≠ gc) (ngbgc : gb ≠ gc) :
    wpAnyH Try.prog .any hbNR Q (fun W : World => Below w3.heap.size w3 W) 0 #[true, true, true, true, true, true, true, true, true, true, true, true, true, true, true, true, true, true, true, true, true, true, true, true, true, true, true, true, true, true] { tmps := #[.slice a2 m2 c2, .int .i64 i, .int .i64 j, .int .i64 k, undef, undef, undef, undef, .bool false, .slice (some ⟨b, off, none⟩) n c3, .int .i64 0, .pointer (some ⟨ga, 0, none⟩), .pointer (some ⟨gb, 0, none⟩), .pointer (some ⟨gc, 0, none⟩), undef, undef, undef, .slice a0 len0 cap0, .slice a2 m2 c2, .tuple #[.slice (some ⟨b, off, none⟩) n c3, .int .i64 0], .slice a2 m2 c2, .tuple #[.slice (some ⟨b, off, none⟩) n c3, .int .i64 0], .slice (some ⟨b, off, none⟩) n c3, .int .i64 0, .int .i64 0, .bool false, .bool false, .slice (some ⟨b, off, none⟩) n c3, .int .i64 (n : Int), .bool false, .bool false, undef, .slice (some ⟨b, off, none⟩) n c3, .int .i64 i, .slice (some ⟨b, off, none⟩) n c3, .int .i64 (n : Int), .int .i64 ((n : Int) - 1), .int .i64 (n1 : Int), .pointer (some ⟨b, off + n1 * 7, none⟩), .agg (orC p1).toArray, .slice (some ⟨b, off, none⟩) n c3, .int .i64 j, .slice (some ⟨b, off, none⟩) n c3, .int .i64 (n : Int), .int .i64 ((n : Int) - 1), .int .i64 (n2 : Int), .pointer (some ⟨b, off + n2 * 7, none⟩), .agg (orC p2).toArray, .slice (some ⟨b, off, none⟩) n c3, .int .i64 k, .slice (some ⟨b, off, none⟩) n c3, .int .i64 (n : Int), .int .i64 ((n : Int) - 1), .int .i64 (n3 : Int), .pointer (some ⟨b, off + n3 * 7, none⟩), .agg (orC p3).toArray, undef, undef, undef, undef, undef, undef, undef, undef, undef, undef, undef, undef, undef, undef, undef, undef, undef, undef, undef, undef, undef, undef, undef, undef, undef, undef, undef, undef, undef, undef, undef, undef, undef, undef, undef, undef, undef, undef], defers := [] } wk := by
  refine wpAnyH_done (by decide +kernel) ?_ _
  exact hQ wk hk ga hga qga gb hgb qgb gc hgc qgc ngagb ngagc ngbgc
set_option maxRecDepth 100000 in
set_option maxHeartbeats 1000000 in
theorem hbN1 (w3 : World) (a2 : Option Addr) (m2 c2 : Nat) (i j k : Int) (b off n c3 : Nat) (a0 : Option Addr) (len0 cap0 : Nat) (p1 p2 p3 : Opr) (n1 n2 n3 : Nat) (h1 : n1 < n) (h2 : n2 < n) (h3 : n3 < n) (hn : n ≤ 64) (hbl : b < w3.heap.size) (r1 : w3.rangeAt b (off + n1 * 7) (orC p1)) (r2 : w3.rangeAt b (off + n2 * 7) (orC p2)) (r3 : w3.rangeAt b (off + n3 * 7) (orC p3)) (e1 : leastV i 0 ((n : Int) - 1) = n1) (e2 : leastV j 0 ((n : Int) - 1) = n2) (e3 : leastV k 0 ((n : Int) - 1) = n3) (hw : IntKind.i64.wrap ((n : Int) - 1) = (n : Int) - 1) {Q : Exit → Act → World → Prop} (hP : ∀ (d : Option Tmp) (v : Value) (c : List PanicEntry) (a : Act) (w : World), Q (.panic c) (a.put d v) w → Q (.panic c) a w) (hQ : ∀ (wk : World) (hk : (fun W : World => Below w3.heap.size w3 W) wk) (ga : Nat) (hga : wk.heap[ga]? = some (.cells (orC p1).toArray 53 (0, 0))) (qga : w3.heap.size ≤ ga) (gb : Nat) (hgb : wk.heap[gb]? = some (.cells (orC p2).toArray 53 (0, 0))) (qgb : w3.heap.size ≤ gb) (gc : Nat) (hgc : wk.heap[gc]? = some (.cells (orC p3).toArray 53 (0, 0))) (qgc : w3.heap.size ≤ gc) (ngagb : ga ≠ gb) (ngagc : ga ≠ gc) (ngbgc : gb ≠ gc), Q .normal { tmps := #[.slice a2 m2 c2, .int .i64 i, .int .i64 j, .int .i64 k, undef, undef, undef, undef, .bool false, .slice (some ⟨b, off, none⟩) n c3, .int .i64 0, .pointer (some ⟨ga, 0, none⟩), .pointer (some ⟨gb, 0, none⟩), .pointer (some ⟨gc, 0, none⟩), undef, undef, undef, .slice a0 len0 cap0, .slice a2 m2 c2, .tuple #[.slice (some ⟨b, off, none⟩) n c3, .int .i64 0], .slice a2 m2 c2, .tuple #[.slice (some ⟨b, off, none⟩) n c3, .int .i64 0], .slice (some ⟨b, off, none⟩) n c3, .int .i64 0, .int .i64 0, .bool false, .bool false, .slice (some ⟨b, off, none⟩) n c3, .int .i64 (n : Int), .bool false, .bool false, undef, .slice (some ⟨b, off, none⟩) n c3, .int .i64 i, .slice (some ⟨b, off, none⟩) n c3, .int .i64 (n : Int), .int .i64 ((n : Int) - 1), .int .i64 (n1 : Int), .pointer (some ⟨b, off + n1 * 7, none⟩), .agg (orC p1).toArray, .slice (some ⟨b, off, none⟩) n c3, .int .i64 j, .slice (some ⟨b, off, none⟩) n c3, .int .i64 (n : Int), .int .i64 ((n : Int) - 1), .int .i64 (n2 : Int), .pointer (some ⟨b, off + n2 * 7, none⟩), .agg (orC p2).toArray, .slice (some ⟨b, off, none⟩) n c3, .int .i64 k, .slice (some ⟨b, off, none⟩) n c3, .int .i64 (n : Int), .int .i64 ((n : Int) - 1), .int .i64 (n3 : Int), .pointer (some ⟨b, off + n3 * 7, none⟩), .agg (orC p3).toArray, undef, undef, undef, undef, undef, undef, undef, undef, undef, undef, undef, undef, undef, undef, undef, undef, undef, undef, undef, undef, undef, undef, undef, undef, undef, undef, undef, undef, undef, undef, undef, undef, undef, undef, undef, undef, undef, undef], defers := [] } wk) (wk : World) (hk : (fun W : World => Below w3.heap.size w3 W) wk) (ga : Nat) (hga : wk.heap[ga]? = some (.cells (orC p1).toArray 53 (0, 0))) (qga : w3.heap.size ≤ ga) (gb : Nat) (hgb : wk.heap[gb]? = some (.cells (orC p2).toArray 53 (0, 0))) (qgb : w3.heap.size ≤ gb) (gc : Nat) (hgc : NV 53 7 w3.heap.size gc wk) (ngagb : ga ≠ gb) (ngagc : ga ≠ gc) (ngbgc : gb ≠ gc) :
    wpAnyH Try.prog .any hbNR Q (fun W : World => Below w3.heap.size w3 W) 1 #[true, true, true, true, true, true, true, true, true, true, true, true, true, true, true, true, true, true, true, true, true, true, true, true, true, true, true, true, true, false] { tmps := #[.slice a2 m2 c2, .int .i64 i, .int .i64 j, .int .i64 k, undef, undef, undef, undef, .bool false, .slice (some ⟨b, off, none⟩) n c3, .int .i64 0, .pointer (some ⟨ga, 0, none⟩), .pointer (some ⟨gb, 0, none⟩), .pointer (some ⟨gc, 0, none⟩), undef, undef, undef, .slice a0 len0 cap0, .slice a2 m2 c2, .tuple #[.slice (some ⟨b, off, none⟩) n c3, .int .i64 0], .slice a2 m2 c2, .tuple #[.slice (some ⟨b, off, none⟩) n c3, .int .i64 0], .slice (some ⟨b, off, none⟩) n c3, .int .i64 0, .int .i64 0, .bool false, .bool false, .slice (some ⟨b, off, none⟩) n c3, .int .i64 (n : Int), .bool false, .bool false, undef, .slice (some ⟨b, off, none⟩) n c3, .int .i64 i, .slice (some ⟨b, off, none⟩) n c3, .int .i64 (n : Int), .int .i64 ((n : Int) - 1), .int .i64 (n1 : Int), .pointer (some ⟨b, off + n1 * 7, none⟩), .agg (orC p1).toArray, .slice (some ⟨b, off, none⟩) n c3, .int .i64 j, .slice (some ⟨b, off, none⟩) n c3, .int .i64 (n : Int), .int .i64 ((n : Int) - 1), .int .i64 (n2 : Int), .pointer (some ⟨b, off + n2 * 7, none⟩), .agg (orC p2).toArray, .slice (some ⟨b, off, none⟩) n c3, .int .i64 k, .slice (some ⟨b, off, none⟩) n c3, .int .i64 (n : Int), .int .i64 ((n : Int) - 1), .int .i64 (n3 : Int), .pointer (some ⟨b, off + n3 * 7, none⟩), .agg (orC p3).toArray, undef, undef, undef, undef, undef, undef, undef, undef, undef, undef, undef, undef, undef, undef, undef, undef, undef, undef, undef, undef, undef, undef, undef, undef, undef, undef, undef, undef, undef, undef, undef, undef, undef, undef, undef, undef, undef, undef], defers := [] } wk := by
  refine wpAnyH_ready (rs := [29]) (by decide +kernel) (by simp) ?_
  refine (AllReadyH.cons (o := hbNO29) rfl (fun K hK => ?_) AllReadyH.nil)
  · rw [if_pos (by rfl)]
    refine wp_store_mid 53 (.tmp 13) (.tmp 55) rfl gc 0 (orC p3).toArray rfl rfl (hgc.there rfl) op_info (or_cells p3) ?_
    have qgc := hgc.ge
    replace hk := below_setCells hk gc qgc (orC p3).toArray.toList 0
    replace hga := nv_but hga ngagc (orC p3).toArray.toList
    replace hgb := nv_but hgb ngbgc (orC p3).toArray.toList
    replace hgc := hgc.put (D := (orC p3).toArray) rfl
    generalize wk.setCells gc 0 (orC p3).toArray.toList = wk at hga hgb hgc hk ⊢
    refine hK.out _ _ hk (fun _ => ?_)
    clear hK K
    try simp only [Act.put, List.setIfInBounds_toArray, List.set_cons_zero, List.set_cons_succ]
    exact hbN0 w3 a2 m2 c2 i j k b off n c3 a0 len0 cap0 p1 p2 p3 n1 n2 n3 h1 h2 h3 hn hbl r1 r2 r3 e1 e2 e3 hw hP hQ _ hk ga hga qga gb hgb qgb gc hgc qgc ngagb ngagc ngbgc
set_option maxRecDepth 100000 in
set_option maxHeartbeats 1000000 in
theorem hbN2 (w3 : World) (a2 : Option Addr) (m2 c2 : Nat) (i j k : Int) (b off n c3 : Nat) (a0 : Option Addr) (len0 cap0 : Nat) (p1 p2 p3 : Opr) (n1 n2 n3 : Nat) (h1 : n1 < n) (h2 : n2 < n) (h3 : n3 < n) (hn : n ≤ 64) (hbl : b < w3.heap.size) (r1 : w3.rangeAt b (off + n1 * 7) (orC p1)) (r2 : w3.rangeAt b (off + n2 * 7) (orC p2)) (r3 : w3.rangeAt b (off + n3 * 7) (orC p3)) (e1 : leastV i 0 ((n : Int) - 1) = n1) (e2 : leastV j 0 ((n : Int) - 1) = n2) (e3 : leastV k 0 ((n : Int) - 1) = n3) (hw : IntKind.i64.wrap ((n : Int) - 1) = (n : Int) - 1) {Q : Exit → Act → World → Prop} (hP : ∀ (d : Option Tmp) (v : Value) (c : List PanicEntry) (a : Act) (w : World), Q (.panic c) (a.put d v) w → Q (.panic c) a w) (hQ : ∀ (wk : World) (hk : (fun W : World => Below w3.heap.size w3 W) wk) (ga : Nat) (hga : wk.heap[ga]? = some (.cells (orC p1).toArray 53 (0, 0))) (qga : w3.heap.size ≤ ga) (gb : Nat) (hgb : wk.heap[gb]? = some (.cells (orC p2).toArray 53 (0, 0))) (qgb : w3.heap.size ≤ gb) (gc : Nat) (hgc : wk.heap[gc]? = some (.cells (orC p3).toArray 53 (0, 0))) (qgc : w3.heap.size ≤ gc) (ngagb : ga ≠ gb) (ngagc : ga ≠ gc) (ngbgc : gb ≠ gc), Q .normal { tmps := #[.slice a2 m2 c2, .int .i64 i, .int .i64 j, .int .i64 k, undef, undef, undef, undef, .bool false, .slice (some ⟨b, off, none⟩) n c3, .int .i64 0, .pointer (some ⟨ga, 0, none⟩), .pointer (some ⟨gb, 0, none⟩), .pointer (some ⟨gc, 0, none⟩), undef, undef, undef, .slice a0 len0 cap0, .slice a2 m2 c2, .tuple #[.slice (some ⟨b, off, none⟩) n c3, .int .i64 0], .slice a2 m2 c2, .tuple #[.slice (some ⟨b, off, none⟩) n c3, .int .i64 0], .slice (some ⟨b, off, none⟩) n c3, .int .i64 0, .int .i64 0, .bool false, .bool false, .slice (some ⟨b, off, none⟩) n c3, .int .i64 (n : Int), .bool false, .bool false, undef, .slice (some ⟨b, off, none⟩) n c3, .int .i64 i, .slice (some ⟨b, off, none⟩) n c3, .int .i64 (n : Int), .int .i64 ((n : Int) - 1), .int .i64 (n1 : Int), .pointer (some ⟨b, off + n1 * 7, none⟩), .agg (orC p1).toArray, .slice (some ⟨b, off, none⟩) n c3, .int .i64 j, .slice (some ⟨b, off, none⟩) n c3, .int .i64 (n : Int), .int .i64 ((n : Int) - 1), .int .i64 (n2 : Int), .pointer (some ⟨b, off + n2 * 7, none⟩), .agg (orC p2).toArray, .slice (some ⟨b, off, none⟩) n c3, .int .i64 k, .slice (some ⟨b, off, none⟩) n c3, .int .i64 (n : Int), .int .i64 ((n : Int) - 1), .int .i64 (n3 : Int), .pointer (some ⟨b, off + n3 * 7, none⟩), .agg (orC p3).toArray, undef, undef, undef, undef, undef, undef, undef, undef, undef, undef, undef, undef, undef, undef, undef, undef, undef, undef, undef, undef, undef, undef, undef, undef, undef, undef, undef, undef, undef, undef, undef, undef, undef, undef, undef, undef, undef, undef], defers := [] } wk) (wk : World) (hk : (fun W : World => Below w3.heap.size w3 W) wk) (ga : Nat) (hga : wk.heap[ga]? = some (.cells (orC p1).toArray 53 (0, 0))) (qga : w3.heap.size ≤ ga) (gb : Nat) (hgb : NV 53 7 w3.heap.size gb wk) (gc : Nat) (hgc : NV 53 7 w3.heap.size gc wk) (ngagb : ga ≠ gb) (ngagc : ga ≠ gc) (ngbgc : gb ≠ gc) :
    wpAnyH Try.prog .any hbNR Q (fun W : World => Below w3.heap.size w3 W) 2 #[true, true, true, true, true, true, true, true, true, true, true, true, true, true, true, true, true, true, true, true, true, true, true, true, true, true, true, true, false, false] { tmps := #[.slice a2 m2 c2, .int .i64 i, .int .i64 j, .int .i64 k, undef, undef, undef, undef, .bool false, .slice (some ⟨b, off, none⟩) n c3, .int .i64 0, .pointer (some ⟨ga, 0, none⟩), .pointer (some ⟨gb, 0, none⟩), .pointer (some ⟨gc, 0, none⟩), undef, undef, undef, .slice a0 len0 cap0, .slice a2 m2 c2, .tuple #[.slice (some ⟨b, off, none⟩) n c3, .int .i64 0], .slice a2 m2 c2, .tuple #[.slice (some ⟨b, off, none⟩) n c3, .int .i64 0], .slice (some ⟨b, off, none⟩) n c3, .int .i64 0, .int .i64 0, .bool false, .bool false, .slice (some ⟨b, off, none⟩) n c3, .int .i64 (n : Int), .bool false, .bool false, undef, .slice (some ⟨b, off, none⟩) n c3, .int .i64 i, .slice (some ⟨b, off, none⟩) n c3, .int .i64 (n : Int), .int .i64 ((n : Int) - 1), .int .i64 (n1 : Int), .pointer (some ⟨b, off + n1 * 7, none⟩), .agg (orC p1).toArray, .slice (some ⟨b, off, none⟩) n c3, .int .i64 j, .slice (some ⟨b, off, none⟩) n c3, .int .i64 (n : Int), .int .i64 ((n : Int) - 1), .int .i64 (n2 : Int), .pointer (some ⟨b, off + n2 * 7, none⟩), .agg (orC p2).toArray, .slice (some ⟨b, off, none⟩) n c3, .int .i64 k, .slice (some ⟨b, off, none⟩) n c3, .int .i64 (n : Int), .int .i64 ((n : Int) - 1), .int .i64 (n3 : Int), .pointer (some ⟨b, off + n3 * 7, none⟩), .agg (orC p3).toArray, undef, undef, undef, undef, undef, undef, undef, undef, undef, undef, undef, undef, undef, undef, undef, undef, undef, undef, undef, undef, undef, undef, undef, undef, undef, undef, undef, undef, undef, undef, undef, undef, undef, undef, undef, undef, undef, undef], defers := [] } wk := by
  refine wpAnyH_ready (rs := [28]) (by decide +kernel) (by simp) ?_
  refine (AllReadyH.cons (o := hbNO28) rfl (fun K hK => ?_) AllReadyH.nil)
  · rw [if_pos (by rfl)]
    refine wp_store_mid 53 (.tmp 12) (.tmp 47) rfl gb 0 (orC p2).toArray rfl rfl (hgb.there rfl) op_info (or_cells p2) ?_
    have qgb := hgb.ge
    replace hk := below_setCells hk gb qgb (orC p2).toArray.toList 0
    replace hga := nv_but hga ngagb (orC p2).toArray.toList
    replace hgc := hgc.but (Ne.symm ngbgc) (orC p2).toArray.toList
    replace hgb := hgb.put (D := (orC p2).toArray) rfl
    generalize wk.setCells gb 0 (orC p2).toArray.toList = wk at hga hgb hgc hk ⊢
    refine hK.out _ _ hk (fun _ => ?_)
    clear hK K
    try simp only [Act.put, List.setIfInBounds_toArray, List.set_cons_zero, List.set_cons_succ]
    exact hbN1 w3 a2 m2 c2 i j k b off n c3 a0 len0 cap0 p1 p2 p3 n1 n2 n3 h1 h2 h3 hn hbl r1 r2 r3 e1 e2 e3 hw hP hQ _ hk ga hga qga gb hgb qgb gc hgc ngagb ngagc ngbgc
set_option maxRecDepth 100000 in
set_option maxHeartbeats 1000000 in
theorem hbN3 (w3 : World) (a2 : Option Addr) (m2 c2 : Nat) (i j k : Int) (b off n c3 : Nat) (a0 : Option Addr) (len0 cap0 : Nat) (p1 p2 p3 : Opr) (n1 n2 n3 : Nat) (h1 : n1 < n) (h2 : n2 < n) (h3 : n3 < n) (hn : n ≤ 64) (hbl : b < w3.heap.size) (r1 : w3.rangeAt b (off + n1 * 7) (orC p1)) (r2 : w3.rangeAt b (off + n2 * 7) (orC p2)) (r3 : w3.rangeAt b (off + n3 * 7) (orC p3)) (e1 : leastV i 0 ((n : Int) - 1) = n1) (e2 : leastV j 0 ((n : Int) - 1) = n2) (e3 : leastV k 0 ((n : Int) - 1) = n3) (hw : IntKind.i64.wrap ((n : Int) - 1) = (n : Int) - 1) {Q : Exit → Act → World → Prop} (hP : ∀ (d : Option Tmp) (v : Value) (c : List PanicEntry) (a : Act) (w : World), Q (.panic c) (a.put d v) w → Q (.panic c) a w) (hQ : ∀ (wk : World) (hk : (fun W : World => Below w3.heap.size w3 W) wk) (ga : Nat) (hga : wk.heap[ga]? = some (.cells (orC p1).toArray 53 (0, 0))) (qga : w3.heap.size ≤ ga) (gb : Nat) (hgb : wk.heap[gb]? = some (.cells (orC p2).toArray 53 (0, 0))) (qgb : w3.heap.size ≤ gb) (gc : Nat) (hgc : wk.heap[gc]? = some (.cells (orC p3).toArray 53 (0, 0))) (qgc : w3.heap.size ≤ gc) (ngagb : ga ≠ gb) (ngagc : ga ≠ gc) (ngbgc : gb ≠ gc), Q .normal { tmps := #[.slice a2 m2 c2, .int .i64 i, .int .i64 j, .int .i64 k, undef, undef, undef, undef, .bool false, .slice (some ⟨b, off, none⟩) n c3, .int .i64 0, .pointer (some ⟨ga, 0, none⟩), .pointer (some ⟨gb, 0, none⟩), .pointer (some ⟨gc, 0, none⟩), undef, undef, undef, .slice a0 len0 cap0, .slice a2 m2 c2, .tuple #[.slice (some ⟨b, off, none⟩) n c3, .int .i64 0], .slice a2 m2 c2, .tuple #[.slice (some ⟨b, off, none⟩) n c3, .int .i64 0], .slice (some ⟨b, off, none⟩) n c3, .int .i64 0, .int .i64 0, .bool false, .bool false, .slice (some ⟨b, off, none⟩) n c3, .int .i64 (n : Int), .bool false, .bool false, undef, .slice (some ⟨b, off, none⟩) n c3, .int .i64 i, .slice (some ⟨b, off, none⟩) n c3, .int .i64 (n : Int), .int .i64 ((n : Int) - 1), .int .i64 (n1 : Int), .pointer (some ⟨b, off + n1 * 7, none⟩), .agg (orC p1).toArray, .slice (some ⟨b, off, none⟩) n c3, .int .i64 j, .slice (some ⟨b, off, none⟩) n c3, .int .i64 (n : Int), .int .i64 ((n : Int) - 1), .int .i64 (n2 : Int), .pointer (some ⟨b, off + n2 * 7, none⟩), .agg (orC p2).toArray, .slice (some ⟨b, off, none⟩) n c3, .int .i64 k, .slice (some ⟨b, off, none⟩) n c3, .int .i64 (n : Int), .int .i64 ((n : Int) - 1), .int .i64 (n3 : Int), .pointer (some ⟨b, off + n3 * 7, none⟩), .agg (orC p3).toArray, undef, undef, undef, undef, undef, undef, undef, undef, undef, undef, undef, undef, undef, undef, undef, undef, undef, undef, undef, undef, undef, undef, undef, undef, undef, undef, undef, undef, undef, undef, undef, undef, undef, undef, undef, undef, undef, undef], defers := [] } wk) (wk : World) (hk : (fun W : World => Below w3.heap.size w3 W) wk) (ga : Nat) (hga : NV 53 7 w3.heap.size ga wk) (gb : Nat) (hgb : NV 53 7 w3.heap.size gb wk) (gc : Nat) (hgc : NV 53 7 w3.heap.size gc wk) (ngagb : ga ≠ gb) (ngagc : ga ≠ gc) (ngbgc : gb ≠ gc) :
    wpAnyH Try.prog .any hbNR Q (fun W : World => Below w3.heap.size w3 W) 3 #[true, true, true, true, true, true, true, true, true, true, true, true, true, true, true, true, true, true, true, true, true, true, true, true, true, true, true, false, false, false] { tmps := #[.slice a2 m2 c2, .int .i64 i, .int .i64 j, .int .i64 k, undef, undef, undef, undef, .bool false, .slice (some ⟨b, off, none⟩) n c3, .int .i64 0, .pointer (some ⟨ga, 0, none⟩), .pointer (some ⟨gb, 0, none⟩), .pointer (some ⟨gc, 0, none⟩), undef, undef, undef, .slice a0 len0 cap0, .slice a2 m2 c2, .tuple #[.slice (some ⟨b, off, none⟩) n c3, .int .i64 0], .slice a2 m2 c2, .tuple #[.slice (some ⟨b, off, none⟩) n c3, .int .i64 0], .slice (some ⟨b, off, none⟩) n c3, .int .i64 0, .int .i64 0, .bool false, .bool false, .slice (some ⟨b, off, none⟩) n c3, .int .i64 (n : Int), .bool false, .bool false, undef, .slice (some ⟨b, off, none⟩) n c3, .int .i64 i, .slice (some ⟨b, off, none⟩) n c3, .int .i64 (n : Int), .int .i64 ((n : Int) - 1), .int .i64 (n1 : Int), .pointer (some ⟨b, off + n1 * 7, none⟩), .agg (orC p1).toArray, .slice (some ⟨b, off, none⟩) n c3, .int .i64 j, .slice (some ⟨b, off, none⟩) n c3, .int .i64 (n : Int), .int .i64 ((n : Int) - 1), .int .i64 (n2 : Int), .pointer (some ⟨b, off + n2 * 7, none⟩), .agg (orC p2).toArray, .slice (some ⟨b, off, none⟩) n c3, .int .i64 k, .slice (some ⟨b, off, none⟩) n c3, .int .i64 (n : Int), .int .i64 ((n : Int) - 1), .int .i64 (n3 : Int), .pointer (some ⟨b, off + n3 * 7, none⟩), .agg (orC p3).toArray, undef, undef, undef, undef, undef, undef, undef, undef, undef, undef, undef, undef, undef, undef, undef, undef, undef, undef, undef, undef, undef, undef, undef, undef, undef, undef, undef, undef, undef, undef, undef, undef, undef, undef, undef, undef, undef, undef], defers := [] } wk := by
  refine wpAnyH_ready (rs := [27]) (by decide +kernel) (by simp) ?_
  refine (AllReadyH.cons (o := hbNO27) rfl (fun K hK => ?_) AllReadyH.nil)
  · rw [if_pos (by rfl)]
    refine wp_store_mid 53 (.tmp 11) (.tmp 39) rfl ga 0 (orC p1).toArray rfl rfl (hga.there rfl) op_info (or_cells p1) ?_
    have qga := hga.ge
    replace hk := below_setCells hk ga qga (orC p1).toArray.toList 0
    replace hgb := hgb.but (Ne.symm ngagb) (orC p1).toArray.toList
    replace hgc := hgc.but (Ne.symm ngagc) (orC p1).toArray.toList
    replace hga := hga.put (D := (orC p1).toArray) rfl
    generalize wk.setCells ga 0 (orC p1).toArray.toList = wk at hga hgb hgc hk ⊢
    refine hK.out _ _ hk (fun _ => ?_)
    clear hK K
    try simp only [Act.put, List.setIfInBounds_toArray, List.set_cons_zero, List.set_cons_succ]
    exact hbN2 w3 a2 m2 c2 i j k b off n c3 a0 len0 cap0 p1 p2 p3 n1 n2 n3 h1 h2 h3 hn hbl r1 r2 r3 e1 e2 e3 hw hP hQ _ hk ga hga qga gb hgb gc hgc ngagb ngagc ngbgc
set_option maxRecDepth 100000 in
set_option maxHeartbeats 1000000 in
theorem hbN4 (w3 : World) (a2 : Option Addr) (m2 c2 : Nat) (i j k : Int) (b off n c3 : Nat) (a0 : Option Addr) (len0 cap0 : Nat) (p1 p2 p3 : Opr) (n1 n2 n3 : Nat) (h1 : n1 < n) (h2 : n2 < n) (h3 : n3 < n) (hn : n ≤ 64) (hbl : b < w3.heap.size) (r1 : w3.rangeAt b (off + n1 * 7) (orC p1)) (r2 : w3.rangeAt b (off + n2 * 7) (orC p2)) (r3 : w3.rangeAt b (off + n3 * 7) (orC p3)) (e1 : leastV i 0 ((n : Int) - 1) = n1) (e2 : leastV j 0 ((n : Int) - 1) = n2) (e3 : leastV k 0 ((n : Int) - 1) = n3) (hw : IntKind.i64.wrap ((n : Int) - 1) = (n : Int) - 1) {Q : Exit → Act → World → Prop} (hP : ∀ (d : Option Tmp) (v : Value) (c : List PanicEntry) (a : Act) (w : World), Q (.panic c) (a.put d v) w → Q (.panic c) a w) (hQ : ∀ (wk : World) (hk : (fun W : World => Below w3.heap.size w3 W) wk) (ga : Nat) (hga : wk.heap[ga]? = some (.cells (orC p1).toArray 53 (0, 0))) (qga : w3.heap.size ≤ ga) (gb : Nat) (hgb : wk.heap[gb]? = some (.cells (orC p2).toArray 53 (0, 0))) (qgb : w3.heap.size ≤ gb) (gc : Nat) (hgc : wk.heap[gc]? = some (.cells (orC p3).toArray 53 (0, 0))) (qgc : w3.heap.size ≤ gc) (ngagb : ga ≠ gb) (ngagc : ga ≠ gc) (ngbgc : gb ≠ gc), Q .normal { tmps := #[.slice a2 m2 c2, .int .i64 i, .int .i64 j, .int .i64 k, undef, undef, undef, undef, .bool false, .slice (some ⟨b, off, none⟩) n c3, .int .i64 0, .pointer (some ⟨ga, 0, none⟩), .pointer (some ⟨gb, 0, none⟩), .pointer (some ⟨gc, 0, none⟩), undef, undef, undef, .slice a0 len0 cap0, .slice a2 m2 c2, .tuple #[.slice (some ⟨b, off, none⟩) n c3, .int .i64 0], .slice a2 m2 c2, .tuple #[.slice (some ⟨b, off, none⟩) n c3, .int .i64 0], .slice (some ⟨b, off, none⟩) n c3, .int .i64 0, .int .i64 0, .bool false, .bool false, .slice (some ⟨b, off, none⟩) n c3, .int .i64 (n : Int), .bool false, .bool false, undef, .slice (some ⟨b, off, none⟩) n c3, .int .i64 i, .slice (some ⟨b, off, none⟩) n c3, .int .i64 (n : Int), .int .i64 ((n : Int) - 1), .int .i64 (n1 : Int), .pointer (some ⟨b, off + n1 * 7, none⟩), .agg (orC p1).toArray, .slice (some ⟨b, off, none⟩) n c3, .int .i64 j, .slice (some ⟨b, off, none⟩) n c3, .int .i64 (n : Int), .int .i64 ((n : Int) - 1), .int .i64 (n2 : Int), .pointer (some ⟨b, off + n2 * 7, none⟩), .agg (orC p2).toArray, .slice (some ⟨b, off, none⟩) n c3, .int .i64 k, .slice (some ⟨b, off, none⟩) n c3, .int .i64 (n : Int), .int .i64 ((n : Int) - 1), .int .i64 (n3 : Int), .pointer (some ⟨b, off + n3 * 7, none⟩), .agg (orC p3).toArray, undef, undef, undef, undef, undef, undef, undef, undef, undef, undef, undef, undef, undef, undef, undef, undef, undef, undef, undef, undef, undef, undef, undef, undef, undef, undef, undef, undef, undef, undef, undef, undef, undef, undef, undef, undef, undef, undef], defers := [] } wk) (wk : World) (hk : (fun W : World => Below w3.heap.size w3 W) wk) (ga : Nat) (hga : NV 53 7 w3.heap.size ga wk) (gb : Nat) (hgb : NV 53 7 w3.heap.size gb wk) (ngagb : ga ≠ gb) :
    wpAnyH Try.prog .any hbNR Q (fun W : World => Below w3.heap.size w3 W) 4 #[true, true, true, true, true, true, true, true, true, true, true, true, true, true, true, true, true, true, true, true, true, true, true, true, true, true, false, false, false, false] { tmps := #[.slice a2 m2 c2, .int .i64 i, .int .i64 j, .int .i64 k, undef, undef, undef, undef, .bool false, .slice (some ⟨b, off, none⟩) n c3, .int .i64 0, .pointer (some ⟨ga, 0, none⟩), .pointer (some ⟨gb, 0, none⟩), undef, undef, undef, undef, .slice a0 len0 cap0, .slice a2 m2 c2, .tuple #[.slice (some ⟨b, off, none⟩) n c3, .int .i64 0], .slice a2 m2 c2, .tuple #[.slice (some ⟨b, off, none⟩) n c3, .int .i64 0], .slice (some ⟨b, off, none⟩) n c3, .int .i64 0, .int .i64 0, .bool false, .bool false, .slice (some ⟨b, off, none⟩) n c3, .int .i64 (n : Int), .bool false, .bool false, undef, .slice (some ⟨b, off, none⟩) n c3, .int .i64 i, .slice (some ⟨b, off, none⟩) n c3, .int .i64 (n : Int), .int .i64 ((n : Int) - 1), .int .i64 (n1 : Int), .pointer (some ⟨b, off + n1 * 7, none⟩), .agg (orC p1).toArray, .slice (some ⟨b, off, none⟩) n c3, .int .i64 j, .slice (some ⟨b, off, none⟩) n c3, .int .i64 (n : Int), .int .i64 ((n : Int) - 1), .int .i64 (n2 : Int), .pointer (some ⟨b, off + n2 * 7, none⟩), .agg (orC p2).toArray, .slice (some ⟨b, off, none⟩) n c3, .int .i64 k, .slice (some ⟨b, off, none⟩) n c3, .int .i64 (n : Int), .int .i64 ((n : Int) - 1), .int .i64 (n3 : Int), .pointer (some ⟨b, off + n3 * 7, none⟩), .agg (orC p3).toArray, undef, undef, undef, undef, undef, undef, undef, undef, undef, undef, undef, undef, undef, undef, undef, undef, undef, undef, undef, undef, undef, undef, undef, undef, undef, undef, undef, undef, undef, undef, undef, undef, undef, undef, undef, undef, undef, undef], defers := [] } wk := by
  refine wpAnyH_ready (rs := [26]) (by decide +kernel) (by simp) ?_
  refine (AllReadyH.cons (o := hbNO26) rfl (fun K hK => ?_) AllReadyH.nil)
  · rw [if_pos (by rfl)]
    refine wp_alloc_of 53 7 rfl op_zero ?_
    intro cs hcs
    have hgc := NV.new (T := 53) (N0 := w3.heap.size) (wr := wk) hk.size hcs
    have hbA : Below wk.heap.size wk (wk.alloc (.cells cs 53)) := (Below.refl _ _).alloc (Nat.le_refl _) _
    have ngagc := Nat.ne_of_lt hga.lt
    have ngbgc := Nat.ne_of_lt hgb.lt
    replace hk := bstep hk hbA
    replace hga := hga.step hbA
    replace hgb := hgb.step hbA
    clear hbA hcs
    generalize wk.heap.size = gc at hgc ngagc ngbgc ⊢
    generalize wk.alloc (.cells cs 53) = wk at hgc hga hgb hk ⊢
    refine hK.out _ _ hk (fun _ => ?_)
    clear hK K
    try simp only [Act.put, List.setIfInBounds_toArray, List.set_cons_zero, List.set_cons_succ]
    exact hbN3 w3 a2 m2 c2 i j k b off n c3 a0 len0 cap0 p1 p2 p3 n1 n2 n3 h1 h2 h3 hn hbl r1 r2 r3 e1 e2 e3 hw hP hQ _ hk ga hga gb hgb gc hgc ngagb ngagc ngbgc
set_option maxRecDepth 100000 in
set_option maxHeartbeats 1000000 in
theorem hbN5 (w3 : World) (a2 : Option Addr) (m2 c2 : Nat) (i j k : Int) (b off n c3 : Nat) (a0 : Option Addr) (len0 cap0 : Nat) (p1 p2 p3 : Opr) (n1 n2 n3 : Nat) (h1 : n1 < n) (h2 : n2 < n) (h3 : n3 < n) (hn : n ≤ 64) (hbl : b < w3.heap.size) (r1 : w3.rangeAt b (off + n1 * 7) (orC p1)) (r2 : w3.rangeAt b (off + n2 * 7) (orC p2)) (r3 : w3.rangeAt b (off + n3 * 7) (orC p3)) (e1 : leastV i 0 ((n : Int) - 1) = n1) (e2 : leastV j 0 ((n : Int) - 1) = n2) (e3 : leastV k 0 ((n : Int) - 1) = n3) (hw : IntKind.i64.wrap ((n : Int) - 1) = (n : Int) - 1) {Q : Exit → Act → World → Prop} (hP : ∀ (d : Option Tmp) (v : Value) (c : List PanicEntry) (a : Act) (w : World), Q (.panic c) (a.put d v) w → Q (.panic c) a w) (hQ : ∀ (wk : World) (hk : (fun W : World => Below w3.heap.size w3 W) wk) (ga : Nat) (hga : wk.heap[ga]? = some (.cells (orC p1).toArray 53 (0, 0))) (qga : w3.heap.size ≤ ga) (gb : Nat) (hgb : wk.heap[gb]? = some (.cells (orC p2).toArray 53 (0, 0))) (qgb : w3.heap.size ≤ gb) (gc : Nat) (hgc : wk.heap[gc]? = some (.cells (orC p3).toArray 53 (0, 0))) (qgc : w3.heap.size ≤ gc) (ngagb : ga ≠ gb) (ngagc : ga ≠ gc) (ngbgc : gb ≠ gc), Q .normal { tmps := #[.slice a2 m2 c2, .int .i64 i, .int .i64 j, .int .i64 k, undef, undef, undef, undef, .bool false, .slice (some ⟨b, off, none⟩) n c3, .int .i64 0, .pointer (some ⟨ga, 0, none⟩), .pointer (some ⟨gb, 0, none⟩), .pointer (some ⟨gc, 0, none⟩), undef, undef, undef, .slice a0 len0 cap0, .slice a2 m2 c2, .tuple #[.slice (some ⟨b, off, none⟩) n c3, .int .i64 0], .slice a2 m2 c2, .tuple #[.slice (some ⟨b, off, none⟩) n c3, .int .i64 0], .slice (some ⟨b, off, none⟩) n c3, .int .i64 0, .int .i64 0, .bool false, .bool false, .slice (some ⟨b, off, none⟩) n c3, .int .i64 (n : Int), .bool false, .bool false, undef, .slice (some ⟨b, off, none⟩) n c3, .int .i64 i, .slice (some ⟨b, off, none⟩) n c3, .int .i64 (n : Int), .int .i64 ((n : Int) - 1), .int .i64 (n1 : Int), .pointer (some ⟨b, off + n1 * 7, none⟩), .agg (orC p1).toArray, .slice (some ⟨b, off, none⟩) n c3, .int .i64 j, .slice (some ⟨b, off, none⟩) n c3, .int .i64 (n : Int), .int .i64 ((n : Int) - 1), .int .i64 (n2 : Int), .pointer (some ⟨b, off + n2 * 7, none⟩), .agg (orC p2).toArray, .slice (some ⟨b, off, none⟩) n c3, .int .i64 k, .slice (some ⟨b, off, none⟩) n c3, .int .i64 (n : Int), .int .i64 ((n : Int) - 1), .int .i64 (n3 : Int), .pointer (some ⟨b, off + n3 * 7, none⟩), .agg (orC p3).toArray, undef, undef, undef, undef, undef, undef, undef, undef, undef, undef, undef, undef, undef, undef, undef, undef, undef, undef, undef, undef, undef, undef, undef, undef, undef, undef, undef, undef, undef, undef, undef, undef, undef, undef, undef, undef, undef, undef], defers := [] } wk) (wk : World) (hk : (fun W : World => Below w3.heap.size w3 W) wk) (ga : Nat) (hga : NV 53 7 w3.heap.size ga wk) (gc : Nat) (hgc : NV 53 7 w3.heap.size gc wk) (ngagc : ga ≠ gc) :
    wpAnyH Try.prog .any hbNR Q (fun W : World => Below w3.heap.size w3 W) 4 #[true, true, true, true, true, true, true, true, true, true, true, true, true, true, true, true, true, true, true, true, true, true, true, true, true, false, true, false, false, false] { tmps := #[.slice a2 m2 c2, .int .i64 i, .int .i64 j, .int .i64 k, undef, undef, undef, undef, .bool false, .slice (some ⟨b, off, none⟩) n c3, .int .i64 0, .pointer (some ⟨ga, 0, none⟩), undef, .pointer (some ⟨gc, 0, none⟩), undef, undef, undef, .slice a0 len0 cap0, .slice a2 m2 c2, .tuple #[.slice (some ⟨b, off, none⟩) n c3, .int .i64 0], .slice a2 m2 c2, .tuple #[.slice (some ⟨b, off, none⟩) n c3, .int .i64 0], .slice (some ⟨b, off, none⟩) n c3, .int .i64 0, .int .i64 0, .bool false, .bool false, .slice (some ⟨b, off, none⟩) n c3, .int .i64 (n : Int), .bool false, .bool false, undef, .slice (some ⟨b, off, none⟩) n c3, .int .i64 i, .slice (some ⟨b, off, none⟩) n c3, .int .i64 (n : Int), .int .i64 ((n : Int) - 1), .int .i64 (n1 : Int), .pointer (some ⟨b, off + n1 * 7, none⟩), .agg (orC p1).toArray, .slice (some ⟨b, off, none⟩) n c3, .int .i64 j, .slice (some ⟨b, off, none⟩) n c3, .int .i64 (n : Int), .int .i64 ((n : Int) - 1), .int .i64 (n2 : Int), .pointer (some ⟨b, off + n2 * 7, none⟩), .agg (orC p2).toArray, .slice (some ⟨b, off, none⟩) n c3, .int .i64 k, .slice (some ⟨b, off, none⟩) n c3, .int .i64 (n : Int), .int .i64 ((n : Int) - 1), .int .i64 (n3 : Int), .pointer (some ⟨b, off + n3 * 7, none⟩), .agg (orC p3).toArray, undef, undef, undef, undef, undef, undef, undef, undef, undef, undef, undef, undef, undef, undef, undef, undef, undef, undef, undef, undef, undef, undef, undef, undef, undef, undef, undef, undef, undef, undef, undef, undef, undef, undef, undef, undef, undef, undef], defers := [] } wk := by
  refine wpAnyH_ready (rs := [25]) (by decide +kernel) (by simp) ?_
  refine (AllReadyH.cons (o := hbNO25) rfl (fun K hK => ?_) AllReadyH.nil)
  · rw [if_pos (by rfl)]
    refine wp_alloc_of 53 7 rfl op_zero ?_
    intro cs hcs
    have hgb := NV.new (T := 53) (N0 := w3.heap.size) (wr := wk) hk.size hcs
    have hbA : Below wk.heap.size wk (wk.alloc (.cells cs 53)) := (Below.refl _ _).alloc (Nat.le_refl _) _
    have ngagb := Nat.ne_of_lt hga.lt
    have ngbgc := Nat.ne_of_gt hgc.lt
    replace hk := bstep hk hbA
    replace hga := hga.step hbA
    replace hgc := hgc.step hbA
    clear hbA hcs
    generalize wk.heap.size = gb at hgb ngagb ngbgc ⊢
    generalize wk.alloc (.cells cs 53) = wk at hgb hga hgc hk ⊢
    refine hK.out _ _ hk (fun _ => ?_)
    clear hK K
    try simp only [Act.put, List.setIfInBounds_toArray, List.set_cons_zero, List.set_cons_succ]
    exact hbN3 w3 a2 m2 c2 i j k b off n c3 a0 len0 cap0 p1 p2 p3 n1 n2 n3 h1 h2 h3 hn hbl r1 r2 r3 e1 e2 e3 hw hP hQ _ hk ga hga gb hgb gc hgc ngagb ngagc ngbgc
set_option maxRecDepth 100000 in
set_option maxHeartbeats 1000000 in
theorem hbN6 (w3 : World) (a2 : Option Addr) (m2 c2 : Nat) (i j k : Int) (b off n c3 : Nat) (a0 : Option Addr) (len0 cap0 : Nat) (p1 p2 p3 : Opr) (n1 n2 n3 : Nat) (h1 : n1 < n) (h2 : n2 < n) (h3 : n3 < n) (hn : n ≤ 64) (hbl : b < w3.heap.size) (r1 : w3.rangeAt b (off + n1 * 7) (orC p1)) (r2 : w3.rangeAt b (off + n2 * 7) (orC p2)) (r3 : w3.rangeAt b (off + n3 * 7) (orC p3)) (e1 : leastV i 0 ((n : Int) - 1) = n1) (e2 : leastV j 0 ((n : Int) - 1) = n2) (e3 : leastV k 0 ((n : Int) - 1) = n3) (hw : IntKind.i64.wrap ((n : Int) - 1) = (n : Int) - 1) {Q : Exit → Act → World → Prop} (hP : ∀ (d : Option Tmp) (v : Value) (c : List PanicEntry) (a : Act) (w : World), Q (.panic c) (a.put d v) w → Q (.panic c) a w) (hQ : ∀ (wk : World) (hk : (fun W : World => Below w3.heap.size w3 W) wk) (ga : Nat) (hga : wk.heap[ga]? = some (.cells (orC p1).toArray 53 (0, 0))) (qga : w3.heap.size ≤ ga) (gb : Nat) (hgb : wk.heap[gb]? = some (.cells (orC p2).toArray 53 (0, 0))) (qgb : w3.heap.size ≤ gb) (gc : Nat) (hgc : wk.heap[gc]? = some (.cells (orC p3).toArray 53 (0, 0))) (qgc : w3.heap.size ≤ gc) (ngagb : ga ≠ gb) (ngagc : ga ≠ gc) (ngbgc : gb ≠ gc), Q .normal { tmps := #[.slice a2 m2 c2, .int .i64 i, .int .i64 j, .int .i64 k, undef, undef, undef, undef, .bool false, .slice (some ⟨b, off, none⟩) n c3, .int .i64 0, .pointer (some ⟨ga, 0, none⟩), .pointer (some ⟨gb, 0, none⟩), .pointer (some ⟨gc, 0, none⟩), undef, undef, undef, .slice a0 len0 cap0, .slice a2 m2 c2, .tuple #[.slice (some ⟨b, off, none⟩) n c3, .int .i64 0], .slice a2 m2 c2, .tuple #[.slice (some ⟨b, off, none⟩) n c3, .int .i64 0], .slice (some ⟨b, off, none⟩) n c3, .int .i64 0, .int .i64 0, .bool false, .bool false, .slice (some ⟨b, off, none⟩) n c3, .int .i64 (n : Int), .bool false, .bool false, undef, .slice (some ⟨b, off, none⟩) n c3, .int .i64 i, .slice (some ⟨b, off, none⟩) n c3, .int .i64 (n : Int), .int .i64 ((n : Int) - 1), .int .i64 (n1 : Int), .pointer (some ⟨b, off + n1 * 7, none⟩), .agg (orC p1).toArray, .slice (some ⟨b, off, none⟩) n c3, .int .i64 j, .slice (some ⟨b, off, none⟩) n c3, .int .i64 (n : Int), .int .i64 ((n : Int) - 1), .int .i64 (n2 : Int), .pointer (some ⟨b, off + n2 * 7, none⟩), .agg (orC p2).toArray, .slice (some ⟨b, off, none⟩) n c3, .int .i64 k, .slice (some ⟨b, off, none⟩) n c3, .int .i64 (n : Int), .int .i64 ((n : Int) - 1), .int .i64 (n3 : Int), .pointer (some ⟨b, off + n3 * 7, none⟩), .agg (orC p3).toArray, undef, undef, undef, undef, undef, undef, undef, undef, undef, undef, undef, undef, undef, undef, undef, undef, undef, undef, undef, undef, undef, undef, undef, undef, undef, undef, undef, undef, undef, undef, undef, undef, undef, undef, undef, undef, undef, undef], defers := [] } wk) (wk : World) (hk : (fun W : World => Below w3.heap.size w3 W) wk) (ga : Nat) (hga : NV 53 7 w3.heap.size ga wk) :
    wpAnyH Try.prog .any hbNR Q (fun W : World => Below w3.heap.size w3 W) 5 #[true, true, true, true, true, true, true, true, true, true, true, true, true, true, true, true, true, true, true, true, true, true, true, true, true, false, false, false, false, false] { tmps := #[.slice a2 m2 c2, .int .i64 i, .int .i64 j, .int .i64 k, undef, undef, undef, undef, .bool false, .slice (some ⟨b, off, none⟩) n c3, .int .i64 0, .pointer (some ⟨ga, 0, none⟩), undef, undef, undef, undef, undef, .slice a0 len0 cap0, .slice a2 m2 c2, .tuple #[.slice (some ⟨b, off, none⟩) n c3, .int .i64 0], .slice a2 m2 c2, .tuple #[.slice (some ⟨b, off, none⟩) n c3, .int .i64 0], .slice (some ⟨b, off, none⟩) n c3, .int .i64 0, .int .i64 0, .bool false, .bool false, .slice (some ⟨b, off, none⟩) n c3, .int .i64 (n : Int), .bool false, .bool false, undef, .slice (some ⟨b, off, none⟩) n c3, .int .i64 i, .slice (some ⟨b, off, none⟩) n c3, .int .i64 (n : Int), .int .i64 ((n : Int) - 1), .int .i64 (n1 : Int), .pointer (some ⟨b, off + n1 * 7, none⟩), .agg (orC p1).toArray, .slice (some ⟨b, off, none⟩) n c3, .int .i64 j, .slice (some ⟨b, off, none⟩) n c3, .int .i64 (n : Int), .int .i64 ((n : Int) - 1), .int .i64 (n2 : Int), .pointer (some ⟨b, off + n2 * 7, none⟩), .agg (orC p2).toArray, .slice (some ⟨b, off, none⟩) n c3, .int .i64 k, .slice (some ⟨b, off, none⟩) n c3, .int .i64 (n : Int), .int .i64 ((n : Int) - 1), .int .i64 (n3 : Int), .pointer (some ⟨b, off + n3 * 7, none⟩), .agg (orC p3).toArray, undef, undef, undef, undef, undef, undef, undef, undef, undef, undef, undef, undef, undef, undef, undef, undef, undef, undef, undef, undef, undef, undef, undef, undef, undef, undef, undef, undef, undef, undef, undef, undef, undef, undef, undef, undef, undef, undef], defers := [] } wk := by
  refine wpAnyH_ready (rs := [25, 26]) (by decide +kernel) (by simp) ?_
  refine (AllReadyH.cons (o := hbNO25) rfl (fun K hK => ?_) (AllReadyH.cons (o := hbNO26) rfl (fun K hK => ?_) AllReadyH.nil))
  · rw [if_pos (by rfl)]
    refine wp_alloc_of 53 7 rfl op_zero ?_
    intro cs hcs
    have hgb := NV.new (T := 53) (N0 := w3.heap.size) (wr := wk) hk.size hcs
    have hbA : Below wk.heap.size wk (wk.alloc (.cells cs 53)) := (Below.refl _ _).alloc (Nat.le_refl _) _
    have ngagb := Nat.ne_of_lt hga.lt
    replace hk := bstep hk hbA
    replace hga := hga.step hbA
    clear hbA hcs
    generalize wk.heap.size = gb at hgb ngagb ⊢
    generalize wk.alloc (.cells cs 53) = wk at hgb hga hk ⊢
    refine hK.out _ _ hk (fun _ => ?_)
    clear hK K
    try simp only [Act.put, List.setIfInBounds_toArray, List.set_cons_zero, List.set_cons_succ]
    exact hbN4 w3 a2 m2 c2 i j k b off n c3 a0 len0 cap0 p1 p2 p3 n1 n2 n3 h1 h2 h3 hn hbl r1 r2 r3 e1 e2 e3 hw hP hQ _ hk ga hga gb hgb ngagb
  · rw [if_pos (by rfl)]
    refine wp_alloc_of 53 7 rfl op_zero ?_
    intro cs hcs
    have hgc := NV.new (T := 53) (N0 := w3.heap.size) (wr := wk) hk.size hcs
    have hbA : Below wk.heap.size wk (wk.alloc (.cells cs 53)) := (Below.refl _ _).alloc (Nat.le_refl _) _
    have ngagc := Nat.ne_of_lt hga.lt
    replace hk := bstep hk hbA
    replace hga := hga.step hbA
    clear hbA hcs
    generalize wk.heap.size = gc at hgc ngagc ⊢
    generalize wk.alloc (.cells cs 53) = wk at hgc hga hk ⊢
    refine hK.out _ _ hk (fun _ => ?_)
    clear hK K
    try simp only [Act.put, List.setIfInBounds_toArray, List.set_cons_zero, List.set_cons_succ]
    exact hbN5 w3 a2 m2 c2 i j k b off n c3 a0 len0 cap0 p1 p2 p3 n1 n2 n3 h1 h2 h3 hn hbl r1 r2 r3 e1 e2 e3 hw hP hQ _ hk ga hga gc hgc ngagc
set_option maxRecDepth 100000 in
set_option maxHeartbeats 1000000 in
theorem hbN7 (w3 : World) (a2 : Option Addr) (m2 c2 : Nat) (i j k : Int) (b off n c3 : Nat) (a0 : Option Addr) (len0 cap0 : Nat) (p1 p2 p3 : Opr) (n1 n2 n3 : Nat) (h1 : n1 < n) (h2 : n2 < n) (h3 : n3 < n) (hn : n ≤ 64) (hbl : b < w3.heap.size) (r1 : w3.rangeAt b (off + n1 * 7) (orC p1)) (r2 : w3.rangeAt b (off + n2 * 7) (orC p2)) (r3 : w3.rangeAt b (off + n3 * 7) (orC p3)) (e1 : leastV i 0 ((n : Int) - 1) = n1) (e2 : leastV j 0 ((n : Int) - 1) = n2) (e3 : leastV k 0 ((n : Int) - 1) = n3) (hw : IntKind.i64.wrap ((n : Int) - 1) = (n : Int) - 1) {Q : Exit → Act → World → Prop} (hP : ∀ (d : Option Tmp) (v : Value) (c : List PanicEntry) (a : Act) (w : World), Q (.panic c) (a.put d v) w → Q (.panic c) a w) (hQ : ∀ (wk : World) (hk : (fun W : World => Below w3.heap.size w3 W) wk) (ga : Nat) (hga : wk.heap[ga]? = some (.cells (orC p1).toArray 53 (0, 0))) (qga : w3.heap.size ≤ ga) (gb : Nat) (hgb : wk.heap[gb]? = some (.cells (orC p2).toArray 53 (0, 0))) (qgb : w3.heap.size ≤ gb) (gc : Nat) (hgc : wk.heap[gc]? = some (.cells (orC p3).toArray 53 (0, 0))) (qgc : w3.heap.size ≤ gc) (ngagb : ga ≠ gb) (ngagc : ga ≠ gc) (ngbgc : gb ≠ gc), Q .normal { tmps := #[.slice a2 m2 c2, .int .i64 i, .int .i64 j, .int .i64 k, undef, undef, undef, undef, .bool false, .slice (some ⟨b, off, none⟩) n c3, .int .i64 0, .pointer (some ⟨ga, 0, none⟩), .pointer (some ⟨gb, 0, none⟩), .pointer (some ⟨gc, 0, none⟩), undef, undef, undef, .slice a0 len0 cap0, .slice a2 m2 c2, .tuple #[.slice (some ⟨b, off, none⟩) n c3, .int .i64 0], .slice a2 m2 c2, .tuple #[.slice (some ⟨b, off, none⟩) n c3, .int .i64 0], .slice (some ⟨b, off, none⟩) n c3, .int .i64 0, .int .i64 0, .bool false, .bool false, .slice (some ⟨b, off, none⟩) n c3, .int .i64 (n : Int), .bool false, .bool false, undef, .slice (some ⟨b, off, none⟩) n c3, .int .i64 i, .slice (some ⟨b, off, none⟩) n c3, .int .i64 (n : Int), .int .i64 ((n : Int) - 1), .int .i64 (n1 : Int), .pointer (some ⟨b, off + n1 * 7, none⟩), .agg (orC p1).toArray, .slice (some ⟨b, off, none⟩) n c3, .int .i64 j, .slice (some ⟨b, off, none⟩) n c3, .int .i64 (n : Int), .int .i64 ((n : Int) - 1), .int .i64 (n2 : Int), .pointer (some ⟨b, off + n2 * 7, none⟩), .agg (orC p2).toArray, .slice (some ⟨b, off, none⟩) n c3, .int .i64 k, .slice (some ⟨b, off, none⟩) n c3, .int .i64 (n : Int), .int .i64 ((n : Int) - 1), .int .i64 (n3 : Int), .pointer (some ⟨b, off + n3 * 7, none⟩), .agg (orC p3).toArray, undef, undef, undef, undef, undef, undef, undef, undef, undef, undef, undef, undef, undef, undef, undef, undef, undef, undef, undef, undef, undef, undef, undef, undef, undef, undef, undef, undef, undef, undef, undef, undef, undef, undef, undef, undef, undef, undef], defers := [] } wk) (wk : World) (hk : (fun W : World => Below w3.heap.size w3 W) wk) (gb : Nat) (hgb : NV 53 7 w3.heap.size gb wk) (gc : Nat) (hgc : NV 53 7 w3.heap.size gc wk) (ngbgc : gb ≠ gc) :
    wpAnyH Try.prog .any hbNR Q (fun W : World => Below w3.heap.size w3 W) 4 #[true, true, true, true, true, true, true, true, true, true, true, true, true, true, true, true, true, true, true, true, true, true, true, true, false, true, true, false, false, false] { tmps := #[.slice a2 m2 c2, .int .i64 i, .int .i64 j, .int .i64 k, undef, undef, undef, undef, .bool false, .slice (some ⟨b, off, none⟩) n c3, .int .i64 0, undef, .pointer (some ⟨gb, 0, none⟩), .pointer (some ⟨gc, 0, none⟩), undef, undef, undef, .slice a0 len0 cap0, .slice a2 m2 c2, .tuple #[.slice (some ⟨b, off, none⟩) n c3, .int .i64 0], .slice a2 m2 c2, .tuple #[.slice (some ⟨b, off, none⟩) n c3, .int .i64 0], .slice (some ⟨b, off, none⟩) n c3, .int .i64 0, .int .i64 0, .bool false, .bool false, .slice (some ⟨b, off, none⟩) n c3, .int .i64 (n : Int), .bool false, .bool false, undef, .slice (some ⟨b, off, none⟩) n c3, .int .i64 i, .slice (some ⟨b, off, none⟩) n c3, .int .i64 (n : Int), .int .i64 ((n : Int) - 1), .int .i64 (n1 : Int), .pointer (some ⟨b, off + n1 * 7, none⟩), .agg (orC p1).toArray, .slice (some ⟨b, off, none⟩) n c3, .int .i64 j, .slice (some ⟨b, off, none⟩) n c3, .int .i64 (n : Int), .int .i64 ((n : Int) - 1), .int .i64 (n2 : Int), .pointer (some ⟨b, off + n2 * 7, none⟩), .agg (orC p2).toArray, .slice (some ⟨b, off, none⟩) n c3, .int .i64 k, .slice (some ⟨b, off, none⟩) n c3, .int .i64 (n : Int), .int .i64 ((n : Int) - 1), .int .i64 (n3 : Int), .pointer (some ⟨b, off + n3 * 7, none⟩), .agg (orC p3).toArray, undef, undef, undef, undef, undef, undef, undef, undef, undef, undef, undef, undef, undef, undef, undef, undef, undef, undef, undef, undef, undef, undef, undef, undef, undef, undef, undef, undef, undef, undef, undef, undef, undef, undef, undef, undef, undef, undef], defers := [] } wk := by
  refine wpAnyH_ready (rs := [24]) (by decide +kernel) (by simp) ?_
  refine (AllReadyH.cons (o := hbNO24) rfl (fun K hK => ?_) AllReadyH.nil)
  · rw [if_pos (by rfl)]
    refine wp_alloc_of 53 7 rfl op_zero ?_
    intro cs hcs
    have hga := NV.new (T := 53) (N0 := w3.heap.size) (wr := wk) hk.size hcs
    have hbA : Below wk.heap.size wk (wk.alloc (.cells cs 53)) := (Below.refl _ _).alloc (Nat.le_refl _) _
    have ngagb := Nat.ne_of_gt hgb.lt
    have ngagc := Nat.ne_of_gt hgc.lt
    replace hk := bstep hk hbA
    replace hgb := hgb.step hbA
    replace hgc := hgc.step hbA
    clear hbA hcs
    generalize wk.heap.size = ga at hga ngagb ngagc ⊢
    generalize wk.alloc (.cells cs 53) = wk at hga hgb hgc hk ⊢
    refine hK.out _ _ hk (fun _ => ?_)
    clear hK K
    try simp only [Act.put, List.setIfInBounds_toArray, List.set_cons_zero, List.set_cons_succ]
    exact hbN3 w3 a2 m2 c2 i j k b off n c3 a0 len0 cap0 p1 p2 p3 n1 n2 n3 h1 h2 h3 hn hbl r1 r2 r3 e1 e2 e3 hw hP hQ _ hk ga hga gb hgb gc hgc ngagb ngagc ngbgc
set_option maxRecDepth 100000 in
set_option maxHeartbeats 1000000 in
theorem hbN8 (w3 : World) (a2 : Option Addr) (m2 c2 : Nat) (i j k : Int) (b off n c3 : Nat) (a0 : Option Addr) (len0 cap0 : Nat) (p1 p2 p3 : Opr) (n1 n2 n3 : Nat) (h1 : n1 < n) (h2 : n2 < n) (h3 : n3 < n) (hn : n ≤ 64) (hbl : b < w3.heap.size) (r1 : w3.rangeAt b (off + n1 * 7) (orC p1)) (r2 : w3.rangeAt b (off + n2 * 7) (orC p2)) (r3 : w3.rangeAt b (off + n3 * 7) (orC p3)) (e1 : leastV i 0 ((n : Int) - 1) = n1) (e2 : leastV j 0 ((n : Int) - 1) = n2) (e3 : leastV k 0 ((n : Int) - 1) = n3) (hw : IntKind.i64.wrap ((n : Int) - 1) = (n : Int) - 1) {Q : Exit → Act → World → Prop} (hP : ∀ (d : Option Tmp) (v : Value) (c : List PanicEntry) (a : Act) (w : World), Q (.panic c) (a.put d v) w → Q (.panic c) a w) (hQ : ∀ (wk : World) (hk : (fun W : World => Below w3.heap.size w3 W) wk) (ga : Nat) (hga : wk.heap[ga]? = some (.cells (orC p1).toArray 53 (0, 0))) (qga : w3.heap.size ≤ ga) (gb : Nat) (hgb : wk.heap[gb]? = some (.cells (orC p2).toArray 53 (0, 0))) (qgb : w3.heap.size ≤ gb) (gc : Nat) (hgc : wk.heap[gc]? = some (.cells (orC p3).toArray 53 (0, 0))) (qgc : w3.heap.size ≤ gc) (ngagb : ga ≠ gb) (ngagc : ga ≠ gc) (ngbgc : gb ≠ gc), Q .normal { tmps := #[.slice a2 m2 c2, .int .i64 i, .int .i64 j, .int .i64 k, undef, undef, undef, undef, .bool false, .slice (some ⟨b, off, none⟩) n c3, .int .i64 0, .pointer (some ⟨ga, 0, none⟩), .pointer (some ⟨gb, 0, none⟩), .pointer (some ⟨gc, 0, none⟩), undef, undef, undef, .slice a0 len0 cap0, .slice a2 m2 c2, .tuple #[.slice (some ⟨b, off, none⟩) n c3, .int .i64 0], .slice a2 m2 c2, .tuple #[.slice (some ⟨b, off, none⟩) n c3, .int .i64 0], .slice (some ⟨b, off, none⟩) n c3, .int .i64 0, .int .i64 0, .bool false, .bool false, .slice (some ⟨b, off, none⟩) n c3, .int .i64 (n : Int), .bool false, .bool false, undef, .slice (some ⟨b, off, none⟩) n c3, .int .i64 i, .slice (some ⟨b, off, none⟩) n c3, .int .i64 (n : Int), .int .i64 ((n : Int) - 1), .int .i64 (n1 : Int), .pointer (some ⟨b, off + n1 * 7, none⟩), .agg (orC p1).toArray, .slice (some ⟨b, off, none⟩) n c3, .int .i64 j, .slice (some ⟨b, off, none⟩) n c3, .int .i64 (n : Int), .int .i64 ((n : Int) - 1), .int .i64 (n2 : Int), .pointer (some ⟨b, off + n2 * 7, none⟩), .agg (orC p2).toArray, .slice (some ⟨b, off, none⟩) n c3, .int .i64 k, .slice (some ⟨b, off, none⟩) n c3, .int .i64 (n : Int), .int .i64 ((n : Int) - 1), .int .i64 (n3 : Int), .pointer (some ⟨b, off + n3 * 7, none⟩), .agg (orC p3).toArray, undef, undef, undef, undef, undef, undef, undef, undef, undef, undef, undef, undef, undef, undef, undef, undef, undef, undef, undef, undef, undef, undef, undef, undef, undef, undef, undef, undef, undef, undef, undef, undef, undef, undef, undef, undef, undef, undef], defers := [] } wk) (wk : World) (hk : (fun W : World => Below w3.heap.size w3 W) wk) (gb : Nat) (hgb : NV 53 7 w3.heap.size gb wk) :
    wpAnyH Try.prog .any hbNR Q (fun W : World => Below w3.heap.size w3 W) 5 #[true, true, true, true, true, true, true, true, true, true, true, true, true, true, true, true, true, true, true, true, true, true, true, true, false, true, false, false, false, false] { tmps := #[.slice a2 m2 c2, .int .i64 i, .int .i64 j, .int .i64 k, undef, undef, undef, undef, .bool false, .slice (some ⟨b, off, none⟩) n c3, .int .i64 0, undef, .pointer (some ⟨gb, 0, none⟩), undef, undef, undef, undef, .slice a0 len0 cap0, .slice a2 m2 c2, .tuple #[.slice (some ⟨b, off, none⟩) n c3, .int .i64 0], .slice a2 m2 c2, .tuple #[.slice (some ⟨b, off, none⟩) n c3, .int .i64 0], .slice (some ⟨b, off, none⟩) n c3, .int .i64 0, .int .i64 0, .bool false, .bool false, .slice (some ⟨b, off, none⟩) n c3, .int .i64 (n : Int), .bool false, .bool false, undef, .slice (some ⟨b, off, none⟩) n c3, .int .i64 i, .slice (some ⟨b, off, none⟩) n c3, .int .i64 (n : Int), .int .i64 ((n : Int) - 1), .int .i64 (n1 : Int), .pointer (some ⟨b, off + n1 * 7, none⟩), .agg (orC p1).toArray, .slice (some ⟨b, off, none⟩) n c3, .int .i64 j, .slice (some ⟨b, off, none⟩) n c3, .int .i64 (n : Int), .int .i64 ((n : Int) - 1), .int .i64 (n2 : Int), .pointer (some ⟨b, off + n2 * 7, none⟩), .agg (orC p2).toArray, .slice (some ⟨b, off, none⟩) n c3, .int .i64 k, .slice (some ⟨b, off, none⟩) n c3, .int .i64 (n : Int), .int .i64 ((n : Int) - 1), .int .i64 (n3 : Int), .pointer (some ⟨b, off + n3 * 7, none⟩), .agg (orC p3).toArray, undef, undef, undef, undef, undef, undef, undef, undef, undef, undef, undef, undef, undef, undef, undef, undef, undef, undef, undef, undef, undef, undef, undef, undef, undef, undef, undef, undef, undef, undef, undef, undef, undef, undef, undef, undef, undef, undef], defers := [] } wk := by
  refine wpAnyH_ready (rs := [24, 26]) (by decide +kernel) (by simp) ?_
  refine (AllReadyH.cons (o := hbNO24) rfl (fun K hK => ?_) (AllReadyH.cons (o := hbNO26) rfl (fun K hK => ?_) AllReadyH.nil))
  · rw [if_pos (by rfl)]
    refine wp_alloc_of 53 7 rfl op_zero ?_
    intro cs hcs
    have hga := NV.new (T := 53) (N0 := w3.heap.size) (wr := wk) hk.size hcs
    have hbA : Below wk.heap.size wk (wk.alloc (.cells cs 53)) := (Below.refl _ _).alloc (Nat.le_refl _) _
    have ngagb := Nat.ne_of_gt hgb.lt
    replace hk := bstep hk hbA
    replace hgb := hgb.step hbA
    clear hbA hcs
    generalize wk.heap.size = ga at hga ngagb ⊢
    generalize wk.alloc (.cells cs 53) = wk at hga hgb hk ⊢
    refine hK.out _ _ hk (fun _ => ?_)
    clear hK K
    try simp only [Act.put, List.setIfInBounds_toArray, List.set_cons_zero, List.set_cons_succ]
    exact hbN4 w3 a2 m2 c2 i j k b off n c3 a0 len0 cap0 p1 p2 p3 n1 n2 n3 h1 h2 h3 hn hbl r1 r2 r3 e1 e2 e3 hw hP hQ _ hk ga hga gb hgb ngagb
  · rw [if_pos (by rfl)]
    refine wp_alloc_of 53 7 rfl op_zero ?_
    intro cs hcs
    have hgc := NV.new (T := 53) (N0 := w3.heap.size) (wr := wk) hk.size hcs
    have hbA : Below wk.heap.size wk (wk.alloc (.cells cs 53)) := (Below.refl _ _).alloc (Nat.le_refl _) _
    have ngbgc := Nat.ne_of_lt hgb.lt
    replace hk := bstep hk hbA
    replace hgb := hgb.step hbA
    clear hbA hcs
    generalize wk.heap.size = gc at hgc ngbgc ⊢
    generalize wk.alloc (.cells cs 53) = wk at hgc hgb hk ⊢
    refine hK.out _ _ hk (fun _ => ?_)
    clear hK K
    try simp only [Act.put, List.setIfInBounds_toArray, List.set_cons_zero, List.set_cons_succ]
    exact hbN7 w3 a2 m2 c2 i j k b off n c3 a0 len0 cap0 p1 p2 p3 n1 n2 n3 h1 h2 h3 hn hbl r1 r2 r3 e1 e2 e3 hw hP hQ _ hk gb hgb gc hgc ngbgc
set_option maxRecDepth 100000 in
set_option maxHeartbeats 1000000 in
theorem hbN9 (w3 : World) (a2 : Option Addr) (m2 c2 : Nat) (i j k : Int) (b off n c3 : Nat) (a0 : Option Addr) (len0 cap0 : Nat) (p1 p2 p3 : Opr) (n1 n2 n3 : Nat) (h1 : n1 < n) (h2 : n2 < n) (h3 : n3 < n) (hn : n ≤ 64) (hbl : b < w3.heap.size) (r1 : w3.rangeAt b (off + n1 * 7) (orC p1)) (r2 : w3.rangeAt b (off + n2 * 7) (orC p2)) (r3 : w3.rangeAt b (off + n3 * 7) (orC p3)) (e1 : leastV i 0 ((n : Int) - 1) = n1) (e2 : leastV j 0 ((n : Int) - 1) = n2) (e3 : leastV k 0 ((n : Int) - 1) = n3) (hw : IntKind.i64.wrap ((n : Int) - 1) = (n : Int) - 1) {Q : Exit → Act → World → Prop} (hP : ∀ (d : Option Tmp) (v : Value) (c : List PanicEntry) (a : Act) (w : World), Q (.panic c) (a.put d v) w → Q (.panic c) a w) (hQ : ∀ (wk : World) (hk : (fun W : World => Below w3.heap.size w3 W) wk) (ga : Nat) (hga : wk.heap[ga]? = some (.cells (orC p1).toArray 53 (0, 0))) (qga : w3.heap.size ≤ ga) (gb : Nat) (hgb : wk.heap[gb]? = some (.cells (orC p2).toArray 53 (0, 0))) (qgb : w3.heap.size ≤ gb) (gc : Nat) (hgc : wk.heap[gc]? = some (.cells (orC p3).toArray 53 (0, 0))) (qgc : w3.heap.size ≤ gc) (ngagb : ga ≠ gb) (ngagc : ga ≠ gc) (ngbgc : gb ≠ gc), Q .normal { tmps := #[.slice a2 m2 c2, .int .i64 i, .int .i64 j, .int .i64 k, undef, undef, undef, undef, .bool false, .slice (some ⟨b, off, none⟩) n c3, .int .i64 0, .pointer (some ⟨ga, 0, none⟩), .pointer (some ⟨gb, 0, none⟩), .pointer (some ⟨gc, 0, none⟩), undef, undef, undef, .slice a0 len0 cap0, .slice a2 m2 c2, .tuple #[.slice (some ⟨b, off, none⟩) n c3, .int .i64 0], .slice a2 m2 c2, .tuple #[.slice (some ⟨b, off, none⟩) n c3, .int .i64 0], .slice (some ⟨b, off, none⟩) n c3, .int .i64 0, .int .i64 0, .bool false, .bool false, .slice (some ⟨b, off, none⟩) n c3, .int .i64 (n : Int), .bool false, .bool false, undef, .slice (some ⟨b, off, none⟩) n c3, .int .i64 i, .slice (some ⟨b, off, none⟩) n c3, .int .i64 (n : Int), .int .i64 ((n : Int) - 1), .int .i64 (n1 : Int), .pointer (some ⟨b, off + n1 * 7, none⟩), .agg (orC p1).toArray, .slice (some ⟨b, off, none⟩) n c3, .int .i64 j, .slice (some ⟨b, off, none⟩) n c3, .int .i64 (n : Int), .int .i64 ((n : Int) - 1), .int .i64 (n2 : Int), .pointer (some ⟨b, off + n2 * 7, none⟩), .agg (orC p2).toArray, .slice (some ⟨b, off, none⟩) n c3, .int .i64 k, .slice (some ⟨b, off, none⟩) n c3, .int .i64 (n : Int), .int .i64 ((n : Int) - 1), .int .i64 (n3 : Int), .pointer (some ⟨b, off + n3 * 7, none⟩), .agg (orC p3).toArray, undef, undef, undef, undef, undef, undef, undef, undef, undef, undef, undef, undef, undef, undef, undef, undef, undef, undef, undef, undef, undef, undef, undef, undef, undef, undef, undef, undef, undef, undef, undef, undef, undef, undef, undef, undef, undef, undef], defers := [] } wk) (wk : World) (hk : (fun W : World => Below w3.heap.size w3 W) wk) (gc : Nat) (hgc : NV 53 7 w3.heap.size gc wk) :
    wpAnyH Try.prog .any hbNR Q (fun W : World => Below w3.heap.size w3 W) 5 #[true, true, true, true, true, true, true, true, true, true, true, true, true, true, true, true, true, true, true, true, true, true, true, true, false, false, true, false, false, false] { tmps := #[.slice a2 m2 c2, .int .i64 i, .int .i64 j, .int .i64 k, undef, undef, undef, undef, .bool false, .slice (some ⟨b, off, none⟩) n c3, .int .i64 0, undef, undef, .pointer (some ⟨gc, 0, none⟩), undef, undef, undef, .slice a0 len0 cap0, .slice a2 m2 c2, .tuple #[.slice (some ⟨b, off, none⟩) n c3, .int .i64 0], .slice a2 m2 c2, .tuple #[.slice (some ⟨b, off, none⟩) n c3, .int .i64 0], .slice (some ⟨b, off, none⟩) n c3, .int .i64 0, .int .i64 0, .bool false, .bool false, .slice (some ⟨b, off, none⟩) n c3, .int .i64 (n : Int), .bool false, .bool false, undef, .slice (some ⟨b, off, none⟩) n c3, .int .i64 i, .slice (some ⟨b, off, none⟩) n c3, .int .i64 (n : Int), .int .i64 ((n : Int) - 1), .int .i64 (n1 : Int), .pointer (some ⟨b, off + n1 * 7, none⟩), .agg (orC p1).toArray, .slice (some ⟨b, off, none⟩) n c3, .int .i64 j, .slice (some ⟨b, off, none⟩) n c3, .int .i64 (n : Int), .int .i64 ((n : Int) - 1), .int .i64 (n2 : Int), .pointer (some ⟨b, off + n2 * 7, none⟩), .agg (orC p2).toArray, .slice (some ⟨b, off, none⟩) n c3, .int .i64 k, .slice (some ⟨b, off, none⟩) n c3, .int .i64 (n : Int), .int .i64 ((n : Int) - 1), .int .i64 (n3 : Int), .pointer (some ⟨b, off + n3 * 7, none⟩), .agg (orC p3).toArray, undef, undef, undef, undef, undef, undef, undef, undef, undef, undef, undef, undef, undef, undef, undef, undef, undef, undef, undef, undef, undef, undef, undef, undef, undef, undef, undef, undef, undef, undef, undef, undef, undef, undef, undef, undef, undef, undef], defers := [] } wk := by
  refine wpAnyH_ready (rs := [24, 25]) (by decide +kernel) (by simp) ?_
  refine (AllReadyH.cons (o := hbNO24) rfl (fun K hK => ?_) (AllReadyH.cons (o := hbNO25) rfl (fun K hK => ?_) AllReadyH.nil))
  · rw [if_pos (by rfl)]
    refine wp_alloc_of 53 7 rfl op_zero ?_
    intro cs hcs
    have hga := NV.new (T := 53) (N0 := w3.heap.size) (wr := wk) hk.size hcs
    have hbA : Below wk.heap.size wk (wk.alloc (.cells cs 53)) := (Below.refl _ _).alloc (Nat.le_refl _) _
    have ngagc := Nat.ne_of_gt hgc.lt
    replace hk := bstep hk hbA
    replace hgc := hgc.step hbA
    clear hbA hcs
    generalize wk.heap.size = ga at hga ngagc ⊢
    generalize wk.alloc (.cells cs 53) = wk at hga hgc hk ⊢
    refine hK.out _ _ hk (fun _ => ?_)
    clear hK K
    try simp only [Act.put, List.setIfInBounds_toArray, List.set_cons_zero, List.set_cons_succ]
    exact hbN5 w3 a2 m2 c2 i j k b off n c3 a0 len0 cap0 p1 p2 p3 n1 n2 n3 h1 h2 h3 hn hbl r1 r2 r3 e1 e2 e3 hw hP hQ _ hk ga hga gc hgc ngagc
  · rw [if_pos (by rfl)]
    refine wp_alloc_of 53 7 rfl op_zero ?_
    intro cs hcs
    have hgb := NV.new (T := 53) (N0 := w3.heap.size) (wr := wk) hk.size hcs
    have hbA : Below wk.heap.size wk (wk.alloc (.cells cs 53)) := (Below.refl _ _).alloc (Nat.le_refl _) _
    have ngbgc := Nat.ne_of_gt hgc.lt
    replace hk := bstep hk hbA
    replace hgc := hgc.step hbA
    clear hbA hcs
    generalize wk.heap.size = gb at hgb ngbgc ⊢
    generalize wk.alloc (.cells cs 53) = wk at hgb hgc hk ⊢
    refine hK.out _ _ hk (fun _ => ?_)
    clear hK K
    try simp only [Act.put, List.setIfInBounds_toArray, List.set_cons_zero, List.set_cons_succ]
    exact hbN7 w3 a2 m2 c2 i j k b off n c3 a0 len0 cap0 p1 p2 p3 n1 n2 n3 h1 h2 h3 hn hbl r1 r2 r3 e1 e2 e3 hw hP hQ _ hk gb hgb gc hgc ngbgc
set_option maxRecDepth 100000 in
set_option maxHeartbeats 1000000 in
theorem hbN10 (w3 : World) (a2 : Option Addr) (m2 c2 : Nat) (i j k : Int) (b off n c3 : Nat) (a0 : Option Addr) (len0 cap0 : Nat) (p1 p2 p3 : Opr) (n1 n2 n3 : Nat) (h1 : n1 < n) (h2 : n2 < n) (h3 : n3 < n) (hn : n ≤ 64) (hbl : b < w3.heap.size) (r1 : w3.rangeAt b (off + n1 * 7) (orC p1)) (r2 : w3.rangeAt b (off + n2 * 7) (orC p2)) (r3 : w3.rangeAt b (off + n3 * 7) (orC p3)) (e1 : leastV i 0 ((n : Int) - 1) = n1) (e2 : leastV j 0 ((n : Int) - 1) = n2) (e3 : leastV k 0 ((n : Int) - 1) = n3) (hw : IntKind.i64.wrap ((n : Int) - 1) = (n : Int) - 1) {Q : Exit → Act → World → Prop} (hP : ∀ (d : Option Tmp) (v : Value) (c : List PanicEntry) (a : Act) (w : World), Q (.panic c) (a.put d v) w → Q (.panic c) a w) (hQ : ∀ (wk : World) (hk : (fun W : World => Below w3.heap.size w3 W) wk) (ga : Nat) (hga : wk.heap[ga]? = some (.cells (orC p1).toArray 53 (0, 0))) (qga : w3.heap.size ≤ ga) (gb : Nat) (hgb : wk.heap[gb]? = some (.cells (orC p2).toArray 53 (0, 0))) (qgb : w3.heap.size ≤ gb) (gc : Nat) (hgc : wk.heap[gc]? = some (.cells (orC p3).toArray 53 (0, 0))) (qgc : w3.heap.size ≤ gc) (ngagb : ga ≠ gb) (ngagc : ga ≠ gc) (ngbgc : gb ≠ gc), Q .normal { tmps := #[.slice a2 m2 c2, .int .i64 i, .int .i64 j, .int .i64 k, undef, undef, undef, undef, .bool false, .slice (some ⟨b, off, none⟩) n c3, .int .i64 0, .pointer (some ⟨ga, 0, none⟩), .pointer (some ⟨gb, 0, none⟩), .pointer (some ⟨gc, 0, none⟩), undef, undef, undef, .slice a0 len0 cap0, .slice a2 m2 c2, .tuple #[.slice (some ⟨b, off, none⟩) n c3, .int .i64 0], .slice a2 m2 c2, .tuple #[.slice (some ⟨b, off, none⟩) n c3, .int .i64 0], .slice (some ⟨b, off, none⟩) n c3, .int .i64 0, .int .i64 0, .bool false, .bool false, .slice (some ⟨b, off, none⟩) n c3, .int .i64 (n : Int), .bool false, .bool false, undef, .slice (some ⟨b, off, none⟩) n c3, .int .i64 i, .slice (some ⟨b, off, none⟩) n c3, .int .i64 (n : Int), .int .i64 ((n : Int) - 1), .int .i64 (n1 : Int), .pointer (some ⟨b, off + n1 * 7, none⟩), .agg (orC p1).toArray, .slice (some ⟨b, off, none⟩) n c3, .int .i64 j, .slice (some ⟨b, off, none⟩) n c3, .int .i64 (n : Int), .int .i64 ((n : Int) - 1), .int .i64 (n2 : Int), .pointer (some ⟨b, off + n2 * 7, none⟩), .agg (orC p2).toArray, .slice (some ⟨b, off, none⟩) n c3, .int .i64 k, .slice (some ⟨b, off, none⟩) n c3, .int .i64 (n : Int), .int .i64 ((n : Int) - 1), .int .i64 (n3 : Int), .pointer (some ⟨b, off + n3 * 7, none⟩), .agg (orC p3).toArray, undef, undef, undef, undef, undef, undef, undef, undef, undef, undef, undef, undef, undef, undef, undef, undef, undef, undef, undef, undef, undef, undef, undef, undef, undef, undef, undef, undef, undef, undef, undef, undef, undef, undef, undef, undef, undef, undef], defers := [] } wk) (wk : World) (hk : (fun W : World => Below w3.heap.size w3 W) wk)  :
    wpAnyH Try.prog .any hbNR Q (fun W : World => Below w3.heap.size w3 W) 6 #[true, true, true, true, true, true, true, true, true, true, true, true, true, true, true, true, true, true, true, true, true, true, true, true, false, false, false, false, false, false] { tmps := #[.slice a2 m2 c2, .int .i64 i, .int .i64 j, .int .i64 k, undef, undef, undef, undef, .bool false, .slice (some ⟨b, off, none⟩) n c3, .int .i64 0, undef, undef, undef, undef, undef, undef, .slice a0 len0 cap0, .slice a2 m2 c2, .tuple #[.slice (some ⟨b, off, none⟩) n c3, .int .i64 0], .slice a2 m2 c2, .tuple #[.slice (some ⟨b, off, none⟩) n c3, .int .i64 0], .slice (some ⟨b, off, none⟩) n c3, .int .i64 0, .int .i64 0, .bool false, .bool false, .slice (some ⟨b, off, none⟩) n c3, .int .i64 (n : Int), .bool false, .bool false, undef, .slice (some ⟨b, off, none⟩) n c3, .int .i64 i, .slice (some ⟨b, off, none⟩) n c3, .int .i64 (n : Int), .int .i64 ((n : Int) - 1), .int .i64 (n1 : Int), .pointer (some ⟨b, off + n1 * 7, none⟩), .agg (orC p1).toArray, .slice (some ⟨b, off, none⟩) n c3, .int .i64 j, .slice (some ⟨b, off, none⟩) n c3, .int .i64 (n : Int), .int .i64 ((n : Int) - 1), .int .i64 (n2 : Int), .pointer (some ⟨b, off + n2 * 7, none⟩), .agg (orC p2).toArray, .slice (some ⟨b, off, none⟩) n c3, .int .i64 k, .slice (some ⟨b, off, none⟩) n c3, .int .i64 (n : Int), .int .i64 ((n : Int) - 1), .int .i64 (n3 : Int), .pointer (some ⟨b, off + n3 * 7, none⟩), .agg (orC p3).toArray, undef, undef, undef, undef, undef, undef, undef, undef, undef, undef, undef, undef, undef, undef, undef, undef, undef, undef, undef, undef, undef, undef, undef, undef, undef, undef, undef, undef, undef, undef, undef, undef, undef, undef, undef, undef, undef, undef], defers := [] } wk := by
  refine wpAnyH_ready (rs := [24, 25, 26]) (by decide +kernel) (by simp) ?_
  refine (AllReadyH.cons (o := hbNO24) rfl (fun K hK => ?_) (AllReadyH.cons (o := hbNO25) rfl (fun K hK => ?_) (AllReadyH.cons (o := hbNO26) rfl (fun K hK => ?_) AllReadyH.nil)))
  · rw [if_pos (by rfl)]
    refine wp_alloc_of 53 7 rfl op_zero ?_
    intro cs hcs
    have hga := NV.new (T := 53) (N0 := w3.heap.size) (wr := wk) hk.size hcs
    have hbA : Below wk.heap.size wk (wk.alloc (.cells cs 53)) := (Below.refl _ _).alloc (Nat.le_refl _) _
    replace hk := bstep hk hbA
    clear hbA hcs
    generalize wk.heap.size = ga at hga  ⊢
    generalize wk.alloc (.cells cs 53) = wk at hga  hk ⊢
    refine hK.out _ _ hk (fun _ => ?_)
    clear hK K
    try simp only [Act.put, List.setIfInBounds_toArray, List.set_cons_zero, List.set_cons_succ]
    exact hbN6 w3 a2 m2 c2 i j k b off n c3 a0 len0 cap0 p1 p2 p3 n1 n2 n3 h1 h2 h3 hn hbl r1 r2 r3 e1 e2 e3 hw hP hQ _ hk ga hga
  · rw [if_pos (by rfl)]
    refine wp_alloc_of 53 7 rfl op_zero ?_
    intro cs hcs
    have hgb := NV.new (T := 53) (N0 := w3.heap.size) (wr := wk) hk.size hcs
    have hbA : Below wk.heap.size wk (wk.alloc (.cells cs 53)) := (Below.refl _ _).alloc (Nat.le_refl _) _
    replace hk := bstep hk hbA
    clear hbA hcs
    generalize wk.heap.size = gb at hgb  ⊢
    generalize wk.alloc (.cells cs 53) = wk at hgb  hk ⊢
    refine hK.out _ _ hk (fun _ => ?_)
    clear hK K
    try simp only [Act.put, List.setIfInBounds_toArray, List.set_cons_zero, List.set_cons_succ]
    exact hbN8 w3 a2 m2 c2 i j k b off n c3 a0 len0 cap0 p1 p2 p3 n1 n2 n3 h1 h2 h3 hn hbl r1 r2 r3 e1 e2 e3 hw hP hQ _ hk gb hgb
  · rw [if_pos (by rfl)]
    refine wp_alloc_of 53 7 rfl op_zero ?_
    intro cs hcs
    have hgc := NV.new (T := 53) (N0 := w3.heap.size) (wr := wk) hk.size hcs
    have hbA : Below wk.heap.size wk (wk.alloc (.cells cs 53)) := (Below.refl _ _).alloc (Nat.le_refl _) _
    replace hk := bstep hk hbA
    clear hbA hcs
    generalize wk.heap.size = gc at hgc  ⊢
    generalize wk.alloc (.cells cs 53) = wk at hgc  hk ⊢
    refine hK.out _ _ hk (fun _ => ?_)
    clear hK K
    try simp only [Act.put, List.setIfInBounds_toArray, List.set_cons_zero, List.set_cons_succ]
    exact hbN9 w3 a2 m2 c2 i j k b off n c3 a0 len0 cap0 p1 p2 p3 n1 n2 n3 h1 h2 h3 hn hbl r1 r2 r3 e1 e2 e3 hw hP hQ _ hk gc hgc
set_option maxRecDepth 100000 in
set_option maxHeartbeats 1000000 in
theorem hbN11 (w3 : World) (a2 : Option Addr) (m2 c2 : Nat) (i j k : Int) (b off n c3 : Nat) (a0 : Option Addr) (len0 cap0 : Nat) (p1 p2 p3 : Opr) (n1 n2 n3 : Nat) (h1 : n1 < n) (h2 : n2 < n) (h3 : n3 < n) (hn : n ≤ 64) (hbl : b < w3.heap.size) (r1 : w3.rangeAt b (off + n1 * 7) (orC p1)) (r2 : w3.rangeAt b (off + n2 * 7) (orC p2)) (r3 : w3.rangeAt b (off + n3 * 7) (orC p3)) (e1 : leastV i 0 ((n : Int) - 1) = n1) (e2 : leastV j 0 ((n : Int) - 1) = n2) (e3 : leastV k 0 ((n : Int) - 1) = n3) (hw : IntKind.i64.wrap ((n : Int) - 1) = (n : Int) - 1) {Q : Exit → Act → World → Prop} (hP : ∀ (d : Option Tmp) (v : Value) (c : List PanicEntry) (a : Act) (w : World), Q (.panic c) (a.put d v) w → Q (.panic c) a w) (hQ : ∀ (wk : World) (hk : (fun W : World => Below w3.heap.size w3 W) wk) (ga : Nat) (hga : wk.heap[ga]? = some (.cells (orC p1).toArray 53 (0, 0))) (qga : w3.heap.size ≤ ga) (gb : Nat) (hgb : wk.heap[gb]? = some (.cells (orC p2).toArray 53 (0, 0))) (qgb : w3.heap.size ≤ gb) (gc : Nat) (hgc : wk.heap[gc]? = some (.cells (orC p3).toArray 53 (0, 0))) (qgc : w3.heap.size ≤ gc) (ngagb : ga ≠ gb) (ngagc : ga ≠ gc) (ngbgc : gb ≠ gc), Q .normal { tmps := #[.slice a2 m2 c2, .int .i64 i, .int .i64 j, .int .i64 k, undef, undef, undef, undef, .bool false, .slice (some ⟨b, off, none⟩) n c3, .int .i64 0, .pointer (some ⟨ga, 0, none⟩), .pointer (some ⟨gb, 0, none⟩), .pointer (some ⟨gc, 0, none⟩), undef, undef, undef, .slice a0 len0 cap0, .slice a2 m2 c2, .tuple #[.slice (some ⟨b, off, none⟩) n c3, .int .i64 0], .slice a2 m2 c2, .tuple #[.slice (some ⟨b, off, none⟩) n c3, .int .i64 0], .slice (some ⟨b, off, none⟩) n c3, .int .i64 0, .int .i64 0, .bool false, .bool false, .slice (some ⟨b, off, none⟩) n c3, .int .i64 (n : Int), .bool false, .bool false, undef, .slice (some ⟨b, off, none⟩) n c3, .int .i64 i, .slice (some ⟨b, off, none⟩) n c3, .int .i64 (n : Int), .int .i64 ((n : Int) - 1), .int .i64 (n1 : Int), .pointer (some ⟨b, off + n1 * 7, none⟩), .agg (orC p1).toArray, .slice (some ⟨b, off, none⟩) n c3, .int .i64 j, .slice (some ⟨b, off, none⟩) n c3, .int .i64 (n : Int), .int .i64 ((n : Int) - 1), .int .i64 (n2 : Int), .pointer (some ⟨b, off + n2 * 7, none⟩), .agg (orC p2).toArray, .slice (some ⟨b, off, none⟩) n c3, .int .i64 k, .slice (some ⟨b, off, none⟩) n c3, .int .i64 (n : Int), .int .i64 ((n : Int) - 1), .int .i64 (n3 : Int), .pointer (some ⟨b, off + n3 * 7, none⟩), .agg (orC p3).toArray, undef, undef, undef, undef, undef, undef, undef, undef, undef, undef, undef, undef, undef, undef, undef, undef, undef, undef, undef, undef, undef, undef, undef, undef, undef, undef, undef, undef, undef, undef, undef, undef, undef, undef, undef, undef, undef, undef], defers := [] } wk) (wk : World) (hk : (fun W : World => Below w3.heap.size w3 W) wk) (ga : Nat) (hga : NV 53 7 w3.heap.size ga wk) (gb : Nat) (hgb : NV 53 7 w3.heap.size gb wk) (gc : Nat) (hgc : NV 53 7 w3.heap.size gc wk) (ngagb : ga ≠ gb) (ngagc : ga ≠ gc) (ngbgc : gb ≠ gc) :
    wpAnyH Try.prog .any hbNR Q (fun W : World => Below w3.heap.size w3 W) 6 #[true, true, true, true, true, true, true, true, true, true, true, true, true, true, true, true, true, true, true, true, true, false, false, false, true, true, true, false, false, false] { tmps := #[.slice a2 m2 c2, .int .i64 i, .int .i64 j, .int .i64 k, undef, undef, undef, undef, .bool false, .slice (some ⟨b, off, none⟩) n c3, .int .i64 0, .pointer (some ⟨ga, 0, none⟩), .pointer (some ⟨gb, 0, none⟩), .pointer (some ⟨gc, 0, none⟩), undef, undef, undef, .slice a0 len0 cap0, .slice a2 m2 c2, .tuple #[.slice (some ⟨b, off, none⟩) n c3, .int .i64 0], .slice a2 m2 c2, .tuple #[.slice (some ⟨b, off, none⟩) n c3, .int .i64 0], .slice (some ⟨b, off, none⟩) n c3, .int .i64 0, .int .i64 0, .bool false, .bool false, .slice (some ⟨b, off, none⟩) n c3, .int .i64 (n : Int), .bool false, .bool false, undef, .slice (some ⟨b, off, none⟩) n c3, .int .i64 i, .slice (some ⟨b, off, none⟩) n c3, .int .i64 (n : Int), .int .i64 ((n : Int) - 1), .int .i64 (n1 : Int), .pointer (some ⟨b, off + n1 * 7, none⟩), .agg (orC p1).toArray, .slice (some ⟨b, off, none⟩) n c3, .int .i64 j, .slice (some ⟨b, off, none⟩) n c3, .int .i64 (n : Int), .int .i64 ((n : Int) - 1), .int .i64 (n2 : Int), .pointer (some ⟨b, off + n2 * 7, none⟩), .agg (orC p2).toArray, .slice (some ⟨b, off, none⟩) n c3, .int .i64 k, .slice (some ⟨b, off, none⟩) n c3, .int .i64 (n : Int), .int .i64 ((n : Int) - 1), undef, undef, undef, undef, undef, undef, undef, undef, undef, undef, undef, undef, undef, undef, undef, undef, undef, undef, undef, undef, undef, undef, undef, undef, undef, undef, undef, undef, undef, undef, undef, undef, undef, undef, undef, undef, undef, undef, undef, undef, undef], defers := [] } wk := by
  refine wpAnyH_ready (rs := [21]) (by decide +kernel) (by simp) ?_
  refine (AllReadyH.cons (o := hbNO21) rfl (fun K hK => ?_) AllReadyH.nil)
  · go_simp
    refine (hb_least k n n3 e3 wk).mono ?_
    rintro e1 w1 ⟨rfl, hw1⟩
    subst hw1
    refine hK.out _ _ hk (fun _ => ?_)
    clear hK K
    try simp only [List.setIfInBounds_toArray, List.set_cons_zero, List.set_cons_succ]
    refine wpAnyH_take (i := 22) (oi := hbNO22) (v := .pointer (some ⟨b, off + n3 * 7, none⟩)) rfl (by kernel_rfl) (by kernel_rfl) (by kernel_rfl) (hP _ _) (Or.inl ⟨by rfl, ?y0⟩) hk ?r0
    case y0 => (intro w hSw; clear hSw; go_simp; first | done | with_reducible rfl)
    simp only [Act.put, List.setIfInBounds_toArray, List.set_cons_zero, List.set_cons_succ]
    refine wpAnyH_take (i := 23) (oi := hbNO23) (v := .agg (orC p3).toArray) rfl (by kernel_rfl) (by kernel_rfl) (by kernel_rfl) (hP _ _) (yieldsIf_load_mid (by rfl) 53 (.tmp 54) rfl b (off + n3 * 7) rfl _ _ (fun W h => nv_range r3 h hbl) Try.underlying53 rfl op_info) hk ?_
    simp only [Act.put, List.setIfInBounds_toArray, List.set_cons_zero, List.set_cons_succ]
    exact hbN3 w3 a2 m2 c2 i j k b off n c3 a0 len0 cap0 p1 p2 p3 n1 n2 n3 h1 h2 h3 hn hbl r1 r2 r3 e1 e2 e3 hw hP hQ _ hk ga hga gb hgb gc hgc ngagb ngagc ngbgc
set_option maxRecDepth 100000 in
set_option maxHeartbeats 1000000 in
theorem hbN12 (w3 : World) (a2 : Option Addr) (m2 c2 : Nat) (i j k : Int) (b off n c3 : Nat) (a0 : Option Addr) (len0 cap0 : Nat) (p1 p2 p3 : Opr) (n1 n2 n3 : Nat) (h1 : n1 < n) (h2 : n2 < n) (h3 : n3 < n) (hn : n ≤ 64) (hbl : b < w3.heap.size) (r1 : w3.rangeAt b (off + n1 * 7) (orC p1)) (r2 : w3.rangeAt b (off + n2 * 7) (orC p2)) (r3 : w3.rangeAt b (off + n3 * 7) (orC p3)) (e1 : leastV i 0 ((n : Int) - 1) = n1) (e2 : leastV j 0 ((n : Int) - 1) = n2) (e3 : leastV k 0 ((n : Int) - 1) = n3) (hw : IntKind.i64.wrap ((n : Int) - 1) = (n : Int) - 1) {Q : Exit → Act → World → Prop} (hP : ∀ (d : Option Tmp) (v : Value) (c : List PanicEntry) (a : Act) (w : World), Q (.panic c) (a.put d v) w → Q (.panic c) a w) (hQ : ∀ (wk : World) (hk : (fun W : World => Below w3.heap.size w3 W) wk) (ga : Nat) (hga : wk.heap[ga]? = some (.cells (orC p1).toArray 53 (0, 0))) (qga : w3.heap.size ≤ ga) (gb : Nat) (hgb : wk.heap[gb]? = some (.cells (orC p2).toArray 53 (0, 0))) (qgb : w3.heap.size ≤ gb) (gc : Nat) (hgc : wk.heap[gc]? = some (.cells (orC p3).toArray 53 (0, 0))) (qgc : w3.heap.size ≤ gc) (ngagb : ga ≠ gb) (ngagc : ga ≠ gc) (ngbgc : gb ≠ gc), Q .normal { tmps := #[.slice a2 m2 c2, .int .i64 i, .int .i64 j, .int .i64 k, undef, undef, undef, undef, .bool false, .slice (some ⟨b, off, none⟩) n c3, .int .i64 0, .pointer (some ⟨ga, 0, none⟩), .pointer (some ⟨gb, 0, none⟩), .pointer (some ⟨gc, 0, none⟩), undef, undef, undef, .slice a0 len0 cap0, .slice a2 m2 c2, .tuple #[.slice (some ⟨b, off, none⟩) n c3, .int .i64 0], .slice a2 m2 c2, .tuple #[.slice (some ⟨b, off, none⟩) n c3, .int .i64 0], .slice (some ⟨b, off, none⟩) n c3, .int .i64 0, .int .i64 0, .bool false, .bool false, .slice (some ⟨b, off, none⟩) n c3, .int .i64 (n : Int), .bool false, .bool false, undef, .slice (some ⟨b, off, none⟩) n c3, .int .i64 i, .slice (some ⟨b, off, none⟩) n c3, .int .i64 (n : Int), .int .i64 ((n : Int) - 1), .int .i64 (n1 : Int), .pointer (some ⟨b, off + n1 * 7, none⟩), .agg (orC p1).toArray, .slice (some ⟨b, off, none⟩) n c3, .int .i64 j, .slice (some ⟨b, off, none⟩) n c3, .int .i64 (n : Int), .int .i64 ((n : Int) - 1), .int .i64 (n2 : Int), .pointer (some ⟨b, off + n2 * 7, none⟩), .agg (orC p2).toArray, .slice (some ⟨b, off, none⟩) n c3, .int .i64 k, .slice (some ⟨b, off, none⟩) n c3, .int .i64 (n : Int), .int .i64 ((n : Int) - 1), .int .i64 (n3 : Int), .pointer (some ⟨b, off + n3 * 7, none⟩), .agg (orC p3).toArray, undef, undef, undef, undef, undef, undef, undef, undef, undef, undef, undef, undef, undef, undef, undef, undef, undef, undef, undef, undef, undef, undef, undef, undef, undef, undef, undef, undef, undef, undef, undef, undef, undef, undef, undef, undef, undef, undef], defers := [] } wk) (wk : World) (hk : (fun W : World => Below w3.heap.size w3 W) wk) (ga : Nat) (hga : NV 53 7 w3.heap.size ga wk) (gb : Nat) (hgb : NV 53 7 w3.heap.size gb wk) (ngagb : ga ≠ gb) :
    wpAnyH Try.prog .any hbNR Q (fun W : World => Below w3.heap.size w3 W) 7 #[true, true, true, true, true, true, true, true, true, true, true, true, true, true, true, true, true, true, true, true, true, false, false, false, true, true, false, false, false, false] { tmps := #[.slice a2 m2 c2, .int .i64 i, .int .i64 j, .int .i64 k, undef, undef, undef, undef, .bool false, .slice (some ⟨b, off, none⟩) n c3, .int .i64 0, .pointer (some ⟨ga, 0, none⟩), .pointer (some ⟨gb, 0, none⟩), undef, undef, undef, undef, .slice a0 len0 cap0, .slice a2 m2 c2, .tuple #[.slice (some ⟨b, off, none⟩) n c3, .int .i64 0], .slice a2 m2 c2, .tuple #[.slice (some ⟨b, off, none⟩) n c3, .int .i64 0], .slice (some ⟨b, off, none⟩) n c3, .int .i64 0, .int .i64 0, .bool false, .bool false, .slice (some ⟨b, off, none⟩) n c3, .int .i64 (n : Int), .bool false, .bool false, undef, .slice (some ⟨b, off, none⟩) n c3, .int .i64 i, .slice (some ⟨b, off, none⟩) n c3, .int .i64 (n : Int), .int .i64 ((n : Int) - 1), .int .i64 (n1 : Int), .pointer (some ⟨b, off + n1 * 7, none⟩), .agg (orC p1).toArray, .slice (some ⟨b, off, none⟩) n c3, .int .i64 j, .slice (some ⟨b, off, none⟩) n c3, .int .i64 (n : Int), .int .i64 ((n : Int) - 1), .int .i64 (n2 : Int), .pointer (some ⟨b, off + n2 * 7, none⟩), .agg (orC p2).toArray, .slice (some ⟨b, off, none⟩) n c3, .int .i64 k, .slice (some ⟨b, off, none⟩) n c3, .int .i64 (n : Int), .int .i64 ((n : Int) - 1), undef, undef, undef, undef, undef, undef, undef, undef, undef, undef, undef, undef, undef, undef, undef, undef, undef, undef, undef, undef, undef, undef, undef, undef, undef, undef, undef, undef, undef, undef, undef, undef, undef, undef, undef, undef, undef, undef, undef, undef, undef], defers := [] } wk := by
  refine wpAnyH_ready (rs := [21, 26]) (by decide +kernel) (by simp) ?_
  refine (AllReadyH.cons (o := hbNO21) rfl (fun K hK => ?_) (AllReadyH.cons (o := hbNO26) rfl (fun K hK => ?_) AllReadyH.nil))
  · go_simp
    refine (hb_least k n n3 e3 wk).mono ?_
    rintro e1 w1 ⟨rfl, hw1⟩
    subst hw1
    refine hK.out _ _ hk (fun _ => ?_)
    clear hK K
    try simp only [List.setIfInBounds_toArray, List.set_cons_zero, List.set_cons_succ]
    refine wpAnyH_take (i := 22) (oi := hbNO22) (v := .pointer (some ⟨b, off + n3 * 7, none⟩)) rfl (by kernel_rfl) (by kernel_rfl) (by kernel_rfl) (hP _ _) (Or.inl ⟨by rfl, ?y1⟩) hk ?r1
    case y1 => (intro w hSw; clear hSw; go_simp; first | done | with_reducible rfl)
    simp only [Act.put, List.setIfInBounds_toArray, List.set_cons_zero, List.set_cons_succ]
    refine wpAnyH_take (i := 23) (oi := hbNO23) (v := .agg (orC p3).toArray) rfl (by kernel_rfl) (by kernel_rfl) (by kernel_rfl) (hP _ _) (yieldsIf_load_mid (by rfl) 53 (.tmp 54) rfl b (off + n3 * 7) rfl _ _ (fun W h => nv_range r3 h hbl) Try.underlying53 rfl op_info) hk ?_
    simp only [Act.put, List.setIfInBounds_toArray, List.set_cons_zero, List.set_cons_succ]
    exact hbN4 w3 a2 m2 c2 i j k b off n c3 a0 len0 cap0 p1 p2 p3 n1 n2 n3 h1 h2 h3 hn hbl r1 r2 r3 e1 e2 e3 hw hP hQ _ hk ga hga gb hgb ngagb
  · rw [if_pos (by rfl)]
    refine wp_alloc_of 53 7 rfl op_zero ?_
    intro cs hcs
    have hgc := NV.new (T := 53) (N0 := w3.heap.size) (wr := wk) hk.size hcs
    have hbA : Below wk.heap.size wk (wk.alloc (.cells cs 53)) := (Below.refl _ _).alloc (Nat.le_refl _) _
    have ngagc := Nat.ne_of_lt hga.lt
    have ngbgc := Nat.ne_of_lt hgb.lt
    replace hk := bstep hk hbA
    replace hga := hga.step hbA
    replace hgb := hgb.step hbA
    clear hbA hcs
    generalize wk.heap.size = gc at hgc ngagc ngbgc ⊢
    generalize wk.alloc (.cells cs 53) = wk at hgc hga hgb hk ⊢
    refine hK.out _ _ hk (fun _ => ?_)
    clear hK K
    try simp only [Act.put, List.setIfInBounds_toArray, List.set_cons_zero, List.set_cons_succ]
    exact hbN11 w3 a2 m2 c2 i j k b off n c3 a0 len0 cap0 p1 p2 p3 n1 n2 n3 h1 h2 h3 hn hbl r1 r2 r3 e1 e2 e3 hw hP hQ _ hk ga hga gb hgb gc hgc ngagb ngagc ngbgc
set_option maxRecDepth 100000 in
set_option maxHeartbeats 1000000 in
theorem hbN13 (w3 : World) (a2 : Option Addr) (m2 c2 : Nat) (i j k : Int) (b off n c3 : Nat) (a0 : Option Addr) (len0 cap0 : Nat) (p1 p2 p3 : Opr) (n1 n2 n3 : Nat) (h1 : n1 < n) (h2 : n2 < n) (h3 : n3 < n) (hn : n ≤ 64) (hbl : b < w3.heap.size) (r1 : w3.rangeAt b (off + n1 * 7) (orC p1)) (r2 : w3.rangeAt b (off + n2 * 7) (orC p2)) (r3 : w3.rangeAt b (off + n3 * 7) (orC p3)) (e1 : leastV i 0 ((n : Int) - 1) = n1) (e2 : leastV j 0 ((n : Int) - 1) = n2) (e3 : leastV k 0 ((n : Int) - 1) = n3) (hw : IntKind.i64.wrap ((n : Int) - 1) = (n : Int) - 1) {Q : Exit → Act → World → Prop} (hP : ∀ (d : Option Tmp) (v : Value) (c : List PanicEntry) (a : Act) (w : World), Q (.panic c) (a.put d v) w → Q (.panic c) a w) (hQ : ∀ (wk : World) (hk : (fun W : World => Below w3.heap.size w3 W) wk) (ga : Nat) (hga : wk.heap[ga]? = some (.cells (orC p1).toArray 53 (0, 0))) (qga : w3.heap.size ≤ ga) (gb : Nat) (hgb : wk.heap[gb]? = some (.cells (orC p2).toArray 53 (0, 0))) (qgb : w3.heap.size ≤ gb) (gc : Nat) (hgc : wk.heap[gc]? = some (.cells (orC p3).toArray 53 (0, 0))) (qgc : w3.heap.size ≤ gc) (ngagb : ga ≠ gb) (ngagc : ga ≠ gc) (ngbgc : gb ≠ gc), Q .normal { tmps := #[.slice a2 m2 c2, .int .i64 i, .int .i64 j, .int .i64 k, undef, undef, undef, undef, .bool false, .slice (some ⟨b, off, none⟩) n c3, .int .i64 0, .pointer (some ⟨ga, 0, none⟩), .pointer (some ⟨gb, 0, none⟩), .pointer (some ⟨gc, 0, none⟩), undef, undef, undef, .slice a0 len0 cap0, .slice a2 m2 c2, .tuple #[.slice (some ⟨b, off, none⟩) n c3, .int .i64 0], .slice a2 m2 c2, .tuple #[.slice (some ⟨b, off, none⟩) n c3, .int .i64 0], .slice (some ⟨b, off, none⟩) n c3, .int .i64 0, .int .i64 0, .bool false, .bool false, .slice (some ⟨b, off, none⟩) n c3, .int .i64 (n : Int), .bool false, .bool false, undef, .slice (some ⟨b, off, none⟩) n c3, .int .i64 i, .slice (some ⟨b, off, none⟩) n c3, .int .i64 (n : Int), .int .i64 ((n : Int) - 1), .int .i64 (n1 : Int), .pointer (some ⟨b, off + n1 * 7, none⟩), .agg (orC p1).toArray, .slice (some ⟨b, off, none⟩) n c3, .int .i64 j, .slice (some ⟨b, off, none⟩) n c3, .int .i64 (n : Int), .int .i64 ((n : Int) - 1), .int .i64 (n2 : Int), .pointer (some ⟨b, off + n2 * 7, none⟩), .agg (orC p2).toArray, .slice (some ⟨b, off, none⟩) n c3, .int .i64 k, .slice (some ⟨b, off, none⟩) n c3, .int .i64 (n : Int), .int .i64 ((n : Int) - 1), .int .i64 (n3 : Int), .pointer (some ⟨b, off + n3 * 7, none⟩), .agg (orC p3).toArray, undef, undef, undef, undef, undef, undef, undef, undef, undef, undef, undef, undef, undef, undef, undef, undef, undef, undef, undef, undef, undef, undef, undef, undef, undef, undef, undef, undef, undef, undef, undef, undef, undef, undef, undef, undef, undef, undef], defers := [] } wk) (wk : World) (hk : (fun W : World => Below w3.heap.size w3 W) wk) (ga : Nat) (hga : NV 53 7 w3.heap.size ga wk) (gc : Nat) (hgc : NV 53 7 w3.heap.size gc wk) (ngagc : ga ≠ gc) :
    wpAnyH Try.prog .any hbNR Q (fun W : World => Below w3.heap.size w3 W) 7 #[true, true, true, true, true, true, true, true, true, true, true, true, true, true, true, true, true, true, true, true, true, false, false, false, true, false, true, false, false, false] { tmps := #[.slice a2 m2 c2, .int .i64 i, .int .i64 j, .int .i64 k, undef, undef, undef, undef, .bool false, .slice (some ⟨b, off, none⟩) n c3, .int .i64 0, .pointer (some ⟨ga, 0, none⟩), undef, .pointer (some ⟨gc, 0, none⟩), undef, undef, undef, .slice a0 len0 cap0, .slice a2 m2 c2, .tuple #[.slice (some ⟨b, off, none⟩) n c3, .int .i64 0], .slice a2 m2 c2, .tuple #[.slice (some ⟨b, off, none⟩) n c3, .int .i64 0], .slice (some ⟨b, off, none⟩) n c3, .int .i64 0, .int .i64 0, .bool false, .bool false, .slice (some ⟨b, off, none⟩) n c3, .int .i64 (n : Int), .bool false, .bool false, undef, .slice (some ⟨b, off, none⟩) n c3, .int .i64 i, .slice (some ⟨b, off, none⟩) n c3, .int .i64 (n : Int), .int .i64 ((n : Int) - 1), .int .i64 (n1 : Int), .pointer (some ⟨b, off + n1 * 7, none⟩), .agg (orC p1).toArray, .slice (some ⟨b, off, none⟩) n c3, .int .i64 j, .slice (some ⟨b, off, none⟩) n c3, .int .i64 (n : Int), .int .i64 ((n : Int) - 1), .int .i64 (n2 : Int), .pointer (some ⟨b, off + n2 * 7, none⟩), .agg (orC p2).toArray, .slice (some ⟨b, off, none⟩) n c3, .int .i64 k, .slice (some ⟨b, off, none⟩) n c3, .int .i64 (n : Int), .int .i64 ((n : Int) - 1), undef, undef, undef, undef, undef, undef, undef, undef, undef, undef, undef, undef, undef, undef, undef, undef, undef, undef, undef, undef, undef, undef, undef, undef, undef, undef, undef, undef, undef, undef, undef, undef, undef, undef, undef, undef, undef, undef, undef, undef, undef], defers := [] } wk := by
  refine wpAnyH_ready (rs := [21, 25]) (by decide +kernel) (by simp) ?_
  refine (AllReadyH.cons (o := hbNO21) rfl (fun K hK => ?_) (AllReadyH.cons (o := hbNO25) rfl (fun K hK => ?_) AllReadyH.nil))
  · go_simp
    refine (hb_least k n n3 e3 wk).mono ?_
    rintro e1 w1 ⟨rfl, hw1⟩
    subst hw1
    refine hK.out _ _ hk (fun _ => ?_)
    clear hK K
    try simp only [List.setIfInBounds_toArray, List.set_cons_zero, List.set_cons_succ]
    refine wpAnyH_take (i := 22) (oi := hbNO22) (v := .pointer (some ⟨b, off + n3 * 7, none⟩)) rfl (by kernel_rfl) (by kernel_rfl) (by kernel_rfl) (hP _ _) (Or.inl ⟨by rfl, ?y2⟩) hk ?r2
    case y2 => (intro w hSw; clear hSw; go_simp; first | done | with_reducible rfl)
    simp only [Act.put, List.setIfInBounds_toArray, List.set_cons_zero, List.set_cons_succ]
    refine wpAnyH_take (i := 23) (oi := hbNO23) (v := .agg (orC p3).toArray) rfl (by kernel_rfl) (by kernel_rfl) (by kernel_rfl) (hP _ _) (yieldsIf_load_mid (by rfl) 53 (.tmp 54) rfl b (off + n3 * 7) rfl _ _ (fun W h => nv_range r3 h hbl) Try.underlying53 rfl op_info) hk ?_
    simp only [Act.put, List.setIfInBounds_toArray, List.set_cons_zero, List.set_cons_succ]
    exact hbN5 w3 a2 m2 c2 i j k b off n c3 a0 len0 cap0 p1 p2 p3 n1 n2 n3 h1 h2 h3 hn hbl r1 r2 r3 e1 e2 e3 hw hP hQ _ hk ga hga gc hgc ngagc
  · rw [if_pos (by rfl)]
    refine wp_alloc_of 53 7 rfl op_zero ?_
    intro cs hcs
    have hgb := NV.new (T := 53) (N0 := w3.heap.size) (wr := wk) hk.size hcs
    have hbA : Below wk.heap.size wk (wk.alloc (.cells cs 53)) := (Below.refl _ _).alloc (Nat.le_refl _) _
    have ngagb := Nat.ne_of_lt hga.lt
    have ngbgc := Nat.ne_of_gt hgc.lt
    replace hk := bstep hk hbA
    replace hga := hga.step hbA
    replace hgc := hgc.step hbA
    clear hbA hcs
    generalize wk.heap.size = gb at hgb ngagb ngbgc ⊢
    generalize wk.alloc (.cells cs 53) = wk at hgb hga hgc hk ⊢
    refine hK.out _ _ hk (fun _ => ?_)
    clear hK K
    try simp only [Act.put, List.setIfInBounds_toArray, List.set_cons_zero, List.set_cons_succ]
    exact hbN11 w3 a2 m2 c2 i j k b off n c3 a0 len0 cap0 p1 p2 p3 n1 n2 n3 h1 h2 h3 hn hbl r1 r2 r3 e1 e2 e3 hw hP hQ _ hk ga hga gb hgb gc hgc ngagb ngagc ngbgc
set_option maxRecDepth 100000 in
set_option maxHeartbeats 1000000 in
theorem hbN14 (w3 : World) (a2 : Option Addr) (m2 c2 : Nat) (i j k : Int) (b off n c3 : Nat) (a0 : Option Addr) (len0 cap0 : Nat) (p1 p2 p3 : Opr) (n1 n2 n3 : Nat) (h1 : n1 < n) (h2 : n2 < n) (h3 : n3 < n) (hn : n ≤ 64) (hbl : b < w3.heap.size) (r1 : w3.rangeAt b (off + n1 * 7) (orC p1)) (r2 : w3.rangeAt b (off + n2 * 7) (orC p2)) (r3 : w3.rangeAt b (off + n3 * 7) (orC p3)) (e1 : leastV i 0 ((n : Int) - 1) = n1) (e2 : leastV j 0 ((n : Int) - 1) = n2) (e3 : leastV k 0 ((n : Int) - 1) = n3) (hw : IntKind.i64.wrap ((n : Int) - 1) = (n : Int) - 1) {Q : Exit → Act → World → Prop} (hP : ∀ (d : Option Tmp) (v : Value) (c : List PanicEntry) (a : Act) (w : World), Q (.panic c) (a.put d v) w → Q (.panic c) a w) (hQ : ∀ (wk : World) (hk : (fun W : World => Below w3.heap.size w3 W) wk) (ga : Nat) (hga : wk.heap[ga]? = some (.cells (orC p1).toArray 53 (0, 0))) (qga : w3.heap.size ≤ ga) (gb : Nat) (hgb : wk.heap[gb]? = some (.cells (orC p2).toArray 53 (0, 0))) (qgb : w3.heap.size ≤ gb) (gc : Nat) (hgc : wk.heap[gc]? = some (.cells (orC p3).toArray 53 (0, 0))) (qgc : w3.heap.size ≤ gc) (ngagb : ga ≠ gb) (ngagc : ga ≠ gc) (ngbgc : gb ≠ gc), Q .normal { tmps := #[.slice a2 m2 c2, .int .i64 i, .int .i64 j, .int .i64 k, undef, undef, undef, undef, .bool false, .slice (some ⟨b, off, none⟩) n c3, .int .i64 0, .pointer (some ⟨ga, 0, none⟩), .pointer (some ⟨gb, 0, none⟩), .pointer (some ⟨gc, 0, none⟩), undef, undef, undef, .slice a0 len0 cap0, .slice a2 m2 c2, .tuple #[.slice (some ⟨b, off, none⟩) n c3, .int .i64 0], .slice a2 m2 c2, .tuple #[.slice (some ⟨b, off, none⟩) n c3, .int .i64 0], .slice (some ⟨b, off, none⟩) n c3, .int .i64 0, .int .i64 0, .bool false, .bool false, .slice (some ⟨b, off, none⟩) n c3, .int .i64 (n : Int), .bool false, .bool false, undef, .slice (some ⟨b, off, none⟩) n c3, .int .i64 i, .slice (some ⟨b, off, none⟩) n c3, .int .i64 (n : Int), .int .i64 ((n : Int) - 1), .int .i64 (n1 : Int), .pointer (some ⟨b, off + n1 * 7, none⟩), .agg (orC p1).toArray, .slice (some ⟨b, off, none⟩) n c3, .int .i64 j, .slice (some ⟨b, off, none⟩) n c3, .int .i64 (n : Int), .int .i64 ((n : Int) - 1), .int .i64 (n2 : Int), .pointer (some ⟨b, off + n2 * 7, none⟩), .agg (orC p2).toArray, .slice (some ⟨b, off, none⟩) n c3, .int .i64 k, .slice (some ⟨b, off, none⟩) n c3, .int .i64 (n : Int), .int .i64 ((n : Int) - 1), .int .i64 (n3 : Int), .pointer (some ⟨b, off + n3 * 7, none⟩), .agg (orC p3).toArray, undef, undef, undef, undef, undef, undef, undef, undef, undef, undef, undef, undef, undef, undef, undef, undef, undef, undef, undef, undef, undef, undef, undef, undef, undef, undef, undef, undef, undef, undef, undef, undef, undef, undef, undef, undef, undef, undef], defers := [] } wk) (wk : World) (hk : (fun W : World => Below w3.heap.size w3 W) wk) (ga : Nat) (hga : NV 53 7 w3.heap.size ga wk) :
    wpAnyH Try.prog .any hbNR Q (fun W : World => Below w3.heap.size w3 W) 8 #[true, true, true, true, true, true, true, true, true, true, true, true, true, true, true, true, true, true, true, true, true, false, false, false, true, false, false, false, false, false] { tmps := #[.slice a2 m2 c2, .int .i64 i, .int .i64 j, .int .i64 k, undef, undef, undef, undef, .bool false, .slice (some ⟨b, off, none⟩) n c3, .int .i64 0, .pointer (some ⟨ga, 0, none⟩), undef, undef, undef, undef, undef, .slice a0 len0 cap0, .slice a2 m2 c2, .tuple #[.slice (some ⟨b, off, none⟩) n c3, .int .i64 0], .slice a2 m2 c2, .tuple #[.slice (some ⟨b, off, none⟩) n c3, .int .i64 0], .slice (some ⟨b, off, none⟩) n c3, .int .i64 0, .int .i64 0, .bool false, .bool false, .slice (some ⟨b, off, none⟩) n c3, .int .i64 (n : Int), .bool false, .bool false, undef, .slice (some ⟨b, off, none⟩) n c3, .int .i64 i, .slice (some ⟨b, off, none⟩) n c3, .int .i64 (n : Int), .int .i64 ((n : Int) - 1), .int .i64 (n1 : Int), .pointer (some ⟨b, off + n1 * 7, none⟩), .agg (orC p1).toArray, .slice (some ⟨b, off, none⟩) n c3, .int .i64 j, .slice (some ⟨b, off, none⟩) n c3, .int .i64 (n : Int), .int .i64 ((n : Int) - 1), .int .i64 (n2 : Int), .pointer (some ⟨b, off + n2 * 7, none⟩), .agg (orC p2).toArray, .slice (some ⟨b, off, none⟩) n c3, .int .i64 k, .slice (some ⟨b, off, none⟩) n c3, .int .i64 (n : Int), .int .i64 ((n : Int) - 1), undef, undef, undef, undef, undef, undef, undef, undef, undef, undef, undef, undef, undef, undef, undef, undef, undef, undef, undef, undef, undef, undef, undef, undef, undef, undef, undef, undef, undef, undef, undef, undef, undef, undef, undef, undef, undef, undef, undef, undef, undef], defers := [] } wk := by
  refine wpAnyH_ready (rs := [21, 25, 26]) (by decide +kernel) (by simp) ?_
  refine (AllReadyH.cons (o := hbNO21) rfl (fun K hK => ?_) (AllReadyH.cons (o := hbNO25) rfl (fun K hK => ?_) (AllReadyH.cons (o := hbNO26) rfl (fun K hK => ?_) AllReadyH.nil)))
  · go_simp
    refine (hb_least k n n3 e3 wk).mono ?_
    rintro e1 w1 ⟨rfl, hw1⟩
    subst hw1
    refine hK.out _ _ hk (fun _ => ?_)
    clear hK K
    try simp only [List.setIfInBounds_toArray, List.set_cons_zero, List.set_cons_succ]
    refine wpAnyH_take (i := 22) (oi := hbNO22) (v := .pointer (some ⟨b, off + n3 * 7, none⟩)) rfl (by kernel_rfl) (by kernel_rfl) (by kernel_rfl) (hP _ _) (Or.inl ⟨by rfl, ?y3⟩) hk ?r3
    case y3 => (intro w hSw; clear hSw; go_simp; first | done | with_reducible rfl)
    simp only [Act.put, List.setIfInBounds_toArray, List.set_cons_zero, List.set_cons_succ]
    refine wpAnyH_take (i := 23) (oi := hbNO23) (v := .agg (orC p3).toArray) rfl (by kernel_rfl) (by kernel_rfl) (by kernel_rfl) (hP _ _) (yieldsIf_load_mid (by rfl) 53 (.tmp 54) rfl b (off + n3 * 7) rfl _ _ (fun W h => nv_range r3 h hbl) Try.underlying53 rfl op_info) hk ?_
    simp only [Act.put, List.setIfInBounds_toArray, List.set_cons_zero, List.set_cons_succ]
    exact hbN6 w3 a2 m2 c2 i j k b off n c3 a0 len0 cap0 p1 p2 p3 n1 n2 n3 h1 h2 h3 hn hbl r1 r2 r3 e1 e2 e3 hw hP hQ _ hk ga hga
  · rw [if_pos (by rfl)]
    refine wp_alloc_of 53 7 rfl op_zero ?_
    intro cs hcs
    have hgb := NV.new (T := 53) (N0 := w3.heap.size) (wr := wk) hk.size hcs
    have hbA : Below wk.heap.size wk (wk.alloc (.cells cs 53)) := (Below.refl _ _).alloc (Nat.le_refl _) _
    have ngagb := Nat.ne_of_lt hga.lt
    replace hk := bstep hk hbA
    replace hga := hga.step hbA
    clear hbA hcs
    generalize wk.heap.size = gb at hgb ngagb ⊢
    generalize wk.alloc (.cells cs 53) = wk at hgb hga hk ⊢
    refine hK.out _ _ hk (fun _ => ?_)
    clear hK K
    try simp only [Act.put, List.setIfInBounds_toArray, List.set_cons_zero, List.set_cons_succ]
    exact hbN12 w3 a2 m2 c2 i j k b off n c3 a0 len0 cap0 p1 p2 p3 n1 n2 n3 h1 h2 h3 hn hbl r1 r2 r3 e1 e2 e3 hw hP hQ _ hk ga hga gb hgb ngagb
  · rw [if_pos (by rfl)]
    refine wp_alloc_of 53 7 rfl op_zero ?_
    intro cs hcs
    have hgc := NV.new (T := 53) (N0 := w3.heap.size) (wr := wk) hk.size hcs
    have hbA : Below wk.heap.size wk (wk.alloc (.cells cs 53)) := (Below.refl _ _).alloc (Nat.le_refl _) _
    have ngagc := Nat.ne_of_lt hga.lt
    replace hk := bstep hk hbA
    replace hga := hga.step hbA
    clear hbA hcs
    generalize wk.heap.size = gc at hgc ngagc ⊢
    generalize wk.alloc (.cells cs 53) = wk at hgc hga hk ⊢
    refine hK.out _ _ hk (fun _ => ?_)
    clear hK K
    try simp only [Act.put, List.setIfInBounds_toArray, List.set_cons_zero, List.set_cons_succ]
    exact hbN13 w3 a2 m2 c2 i j k b off n c3 a0 len0 cap0 p1 p2 p3 n1 n2 n3 h1 h2 h3 hn hbl r1 r2 r3 e1 e2 e3 hw hP hQ _ hk ga hga gc hgc ngagc
set_option maxRecDepth 100000 in
set_option maxHeartbeats 1000000 in
theorem hbN15 (w3 : World) (a2 : Option Addr) (m2 c2 : Nat) (i j k : Int) (b off n c3 : Nat) (a0 : Option Addr) (len0 cap0 : Nat) (p1 p2 p3 : Opr) (n1 n2 n3 : Nat) (h1 : n1 < n) (h2 : n2 < n) (h3 : n3 < n) (hn : n ≤ 64) (hbl : b < w3.heap.size) (r1 : w3.rangeAt b (off + n1 * 7) (orC p1)) (r2 : w3.rangeAt b (off + n2 * 7) (orC p2)) (r3 : w3.rangeAt b (off + n3 * 7) (orC p3)) (e1 : leastV i 0 ((n : Int) - 1) = n1) (e2 : leastV j 0 ((n : Int) - 1) = n2) (e3 : leastV k 0 ((n : Int) - 1) = n3) (hw : IntKind.i64.wrap ((n : Int) - 1) = (n : Int) - 1) {Q : Exit → Act → World → Prop} (hP : ∀ (d : Option Tmp) (v : Value) (c : List PanicEntry) (a : Act) (w : World), Q (.panic c) (a.put d v) w → Q (.panic c) a w) (hQ : ∀ (wk : World) (hk : (fun W : World => Below w3.heap.size w3 W) wk) (ga : Nat) (hga : wk.heap[ga]? = some (.cells (orC p1).toArray 53 (0, 0))) (qga : w3.heap.size ≤ ga) (gb : Nat) (hgb : wk.heap[gb]? = some (.cells (orC p2).toArray 53 (0, 0))) (qgb : w3.heap.size ≤ gb) (gc : Nat) (hgc : wk.heap[gc]? = some (.cells (orC p3).toArray 53 (0, 0))) (qgc : w3.heap.size ≤ gc) (ngagb : ga ≠ gb) (ngagc : ga ≠ gc) (ngbgc : gb ≠ gc), Q .normal { tmps := #[.slice a2 m2 c2, .int .i64 i, .int .i64 j, .int .i64 k, undef, undef, undef, undef, .bool false, .slice (some ⟨b, off, none⟩) n c3, .int .i64 0, .pointer (some ⟨ga, 0, none⟩), .pointer (some ⟨gb, 0, none⟩), .pointer (some ⟨gc, 0, none⟩), undef, undef, undef, .slice a0 len0 cap0, .slice a2 m2 c2, .tuple #[.slice (some ⟨b, off, none⟩) n c3, .int .i64 0], .slice a2 m2 c2, .tuple #[.slice (some ⟨b, off, none⟩) n c3, .int .i64 0], .slice (some ⟨b, off, none⟩) n c3, .int .i64 0, .int .i64 0, .bool false, .bool false, .slice (some ⟨b, off, none⟩) n c3, .int .i64 (n : Int), .bool false, .bool false, undef, .slice (some ⟨b, off, none⟩) n c3, .int .i64 i, .slice (some ⟨b, off, none⟩) n c3, .int .i64 (n : Int), .int .i64 ((n : Int) - 1), .int .i64 (n1 : Int), .pointer (some ⟨b, off + n1 * 7, none⟩), .agg (orC p1).toArray, .slice (some ⟨b, off, none⟩) n c3, .int .i64 j, .slice (some ⟨b, off, none⟩) n c3, .int .i64 (n : Int), .int .i64 ((n : Int) - 1), .int .i64 (n2 : Int), .pointer (some ⟨b, off + n2 * 7, none⟩), .agg (orC p2).toArray, .slice (some ⟨b, off, none⟩) n c3, .int .i64 k, .slice (some ⟨b, off, none⟩) n c3, .int .i64 (n : Int), .int .i64 ((n : Int) - 1), .int .i64 (n3 : Int), .pointer (some ⟨b, off + n3 * 7, none⟩), .agg (orC p3).toArray, undef, undef, undef, undef, undef, undef, undef, undef, undef, undef, undef, undef, undef, undef, undef, undef, undef, undef, undef, undef, undef, undef, undef, undef, undef, undef, undef, undef, undef, undef, undef, undef, undef, undef, undef, undef, undef, undef], defers := [] } wk) (wk : World) (hk : (fun W : World => Below w3.heap.size w3 W) wk) (gb : Nat) (hgb : NV 53 7 w3.heap.size gb wk) (gc : Nat) (hgc : NV 53 7 w3.heap.size gc wk) (ngbgc : gb ≠ gc) :
    wpAnyH Try.prog .any hbNR Q (fun W : World => Below w3.heap.size w3 W) 7 #[true, true, true, true, true, true, true, true, true, true, true, true, true, true, true, true, true, true, true, true, true, false, false, false, false, true, true, false, false, false] { tmps := #[.slice a2 m2 c2, .int .i64 i, .int .i64 j, .int .i64 k, undef, undef, undef, undef, .bool false, .slice (some ⟨b, off, none⟩) n c3, .int .i64 0, undef, .pointer (some ⟨gb, 0, none⟩), .pointer (some ⟨gc, 0, none⟩), undef, undef, undef, .slice a0 len0 cap0, .slice a2 m2 c2, .tuple #[.slice (some ⟨b, off, none⟩) n c3, .int .i64 0], .slice a2 m2 c2, .tuple #[.slice (some ⟨b, off, none⟩) n c3, .int .i64 0], .slice (some ⟨b, off, none⟩) n c3, .int .i64 0, .int .i64 0, .bool false, .bool false, .slice (some ⟨b, off, none⟩) n c3, .int .i64 (n : Int), .bool false, .bool false, undef, .slice (some ⟨b, off, none⟩) n c3, .int .i64 i, .slice (some ⟨b, off, none⟩) n c3, .int .i64 (n : Int), .int .i64 ((n : Int) - 1), .int .i64 (n1 : Int), .pointer (some ⟨b, off + n1 * 7, none⟩), .agg (orC p1).toArray, .slice (some ⟨b, off, none⟩) n c3, .int .i64 j, .slice (some ⟨b, off, none⟩) n c3, .int .i64 (n : Int), .int .i64 ((n : Int) - 1), .int .i64 (n2 : Int), .pointer (some ⟨b, off + n2 * 7, none⟩), .agg (orC p2).toArray, .slice (some ⟨b, off, none⟩) n c3, .int .i64 k, .slice (some ⟨b, off, none⟩) n c3, .int .i64 (n : Int), .int .i64 ((n : Int) - 1), undef, undef, undef, undef, undef, undef, undef, undef, undef, undef, undef, undef, undef, undef, undef, undef, undef, undef, undef, undef, undef, undef, undef, undef, undef, undef, undef, undef, undef, undef, undef, undef, undef, undef, undef, undef, undef, undef, undef, undef, undef], defers := [] } wk := by
  refine wpAnyH_ready (rs := [21, 24]) (by decide +kernel) (by simp) ?_
  refine (AllReadyH.cons (o := hbNO21) rfl (fun K hK => ?_) (AllReadyH.cons (o := hbNO24) rfl (fun K hK => ?_) AllReadyH.nil))
  · go_simp
    refine (hb_least k n n3 e3 wk).mono ?_
    rintro e1 w1 ⟨rfl, hw1⟩
    subst hw1
    refine hK.out _ _ hk (fun _ => ?_)
    clear hK K
    try simp only [List.setIfInBounds_toArray, List.set_cons_zero, List.set_cons_succ]
    refine wpAnyH_take (i := 22) (oi := hbNO22) (v := .pointer (some ⟨b, off + n3 * 7, none⟩)) rfl (by kernel_rfl) (by kernel_rfl) (by kernel_rfl) (hP _ _) (Or.inl ⟨by rfl, ?y4⟩) hk ?r4
    case y4 => (intro w hSw; clear hSw; go_simp; first | done | with_reducible rfl)
    simp only [Act.put, List.setIfInBounds_toArray, List.set_cons_zero, List.set_cons_succ]
    refine wpAnyH_take (i := 23) (oi := hbNO23) (v := .agg (orC p3).toArray) rfl (by kernel_rfl) (by kernel_rfl) (by kernel_rfl) (hP _ _) (yieldsIf_load_mid (by rfl) 53 (.tmp 54) rfl b (off + n3 * 7) rfl _ _ (fun W h => nv_range r3 h hbl) Try.underlying53 rfl op_info) hk ?_
    simp only [Act.put, List.setIfInBounds_toArray, List.set_cons_zero, List.set_cons_succ]
    exact hbN7 w3 a2 m2 c2 i j k b off n c3 a0 len0 cap0 p1 p2 p3 n1 n2 n3 h1 h2 h3 hn hbl r1 r2 r3 e1 e2 e3 hw hP hQ _ hk gb hgb gc hgc ngbgc
  · rw [if_pos (by rfl)]
    refine wp_alloc_of 53 7 rfl op_zero ?_
    intro cs hcs
    have hga := NV.new (T := 53) (N0 := w3.heap.size) (wr := wk) hk.size hcs
    have hbA : Below wk.heap.size wk (wk.alloc (.cells cs 53)) := (Below.refl _ _).alloc (Nat.le_refl _) _
    have ngagb := Nat.ne_of_gt hgb.lt
    have ngagc := Nat.ne_of_gt hgc.lt
    replace hk := bstep hk hbA
    replace hgb := hgb.step hbA
    replace hgc := hgc.step hbA
    clear hbA hcs
    generalize wk.heap.size = ga at hga ngagb ngagc ⊢
    generalize wk.alloc (.cells cs 53) = wk at hga hgb hgc hk ⊢
    refine hK.out _ _ hk (fun _ => ?_)
    clear hK K
    try simp only [Act.put, List.setIfInBounds_toArray, List.set_cons_zero, List.set_cons_succ]
    exact hbN11 w3 a2 m2 c2 i j k b off n c3 a0 len0 cap0 p1 p2 p3 n1 n2 n3 h1 h2 h3 hn hbl r1 r2 r3 e1 e2 e3 hw hP hQ _ hk ga hga gb hgb gc hgc ngagb ngagc ngbgc
set_option maxRecDepth 100000 in
set_option maxHeartbeats 1000000 in
theorem hbN16 (w3 : World) (a2 : Option Addr) (m2 c2 : Nat) (i j k : Int) (b off n c3 : Nat) (a0 : Option Addr) (len0 cap0 : Nat) (p1 p2 p3 : Opr) (n1 n2 n3 : Nat) (h1 : n1 < n) (h2 : n2 < n) (h3 : n3 < n) (hn : n ≤ 64) (hbl : b < w3.heap.size) (r1 : w3.rangeAt b (off + n1 * 7) (orC p1)) (r2 : w3.rangeAt b (off + n2 * 7) (orC p2)) (r3 : w3.rangeAt b (off + n3 * 7) (orC p3)) (e1 : leastV i 0 ((n : Int) - 1) = n1) (e2 : leastV j 0 ((n : Int) - 1) = n2) (e3 : leastV k 0 ((n : Int) - 1) = n3) (hw : IntKind.i64.wrap ((n : Int) - 1) = (n : Int) - 1) {Q : Exit → Act → World → Prop} (hP : ∀ (d : Option Tmp) (v : Value) (c : List PanicEntry) (a : Act) (w : World), Q (.panic c) (a.put d v) w → Q (.panic c) a w) (hQ : ∀ (wk : World) (hk : (fun W : World => Below w3.heap.size w3 W) wk) (ga : Nat) (hga : wk.heap[ga]? = some (.cells (orC p1).toArray 53 (0, 0))) (qga : w3.heap.size ≤ ga) (gb : Nat) (hgb : wk.heap[gb]? = some (.cells (orC p2).toArray 53 (0, 0))) (qgb : w3.heap.size ≤ gb) (gc : Nat) (hgc : wk.heap[gc]? = some (.cells (orC p3).toArray 53 (0, 0))) (qgc : w3.heap.size ≤ gc) (ngagb : ga ≠ gb) (ngagc : ga ≠ gc) (ngbgc : gb ≠ gc), Q .normal { tmps := #[.slice a2 m2 c2, .int .i64 i, .int .i64 j, .int .i64 k, undef, undef, undef, undef, .bool false, .slice (some ⟨b, off, none⟩) n c3, .int .i64 0, .pointer (some ⟨ga, 0, none⟩), .pointer (some ⟨gb, 0, none⟩), .pointer (some ⟨gc, 0, none⟩), undef, undef, undef, .slice a0 len0 cap0, .slice a2 m2 c2, .tuple #[.slice (some ⟨b, off, none⟩) n c3, .int .i64 0], .slice a2 m2 c2, .tuple #[.slice (some ⟨b, off, none⟩) n c3, .int .i64 0], .slice (some ⟨b, off, none⟩) n c3, .int .i64 0, .int .i64 0, .bool false, .bool false, .slice (some ⟨b, off, none⟩) n c3, .int .i64 (n : Int), .bool false, .bool false, undef, .slice (some ⟨b, off, none⟩) n c3, .int .i64 i, .slice (some ⟨b, off, none⟩) n c3, .int .i64 (n : Int), .int .i64 ((n : Int) - 1), .int .i64 (n1 : Int), .pointer (some ⟨b, off + n1 * 7, none⟩), .agg (orC p1).toArray, .slice (some ⟨b, off, none⟩) n c3, .int .i64 j, .slice (some ⟨b, off, none⟩) n c3, .int .i64 (n : Int), .int .i64 ((n : Int) - 1), .int .i64 (n2 : Int), .pointer (some ⟨b, off + n2 * 7, none⟩), .agg (orC p2).toArray, .slice (some ⟨b, off, none⟩) n c3, .int .i64 k, .slice (some ⟨b, off, none⟩) n c3, .int .i64 (n : Int), .int .i64 ((n : Int) - 1), .int .i64 (n3 : Int), .pointer (some ⟨b, off + n3 * 7, none⟩), .agg (orC p3).toArray, undef, undef, undef, undef, undef, undef, undef, undef, undef, undef, undef, undef, undef, undef, undef, undef, undef, undef, undef, undef, undef, undef, undef, undef, undef, undef, undef, undef, undef, undef, undef, undef, undef, undef, undef, undef, undef, undef], defers := [] } wk) (wk : World) (hk : (fun W : World => Below w3.heap.size w3 W) wk) (gb : Nat) (hgb : NV 53 7 w3.heap.size gb wk) :
    wpAnyH Try.prog .any hbNR Q (fun W : World => Below w3.heap.size w3 W) 8 #[true, true, true, true, true, true, true, true, true, true, true, true, true, true, true, true, true, true, true, true, true, false, false, false, false, true, false, false, false, false] { tmps := #[.slice a2 m2 c2, .int .i64 i, .int .i64 j, .int .i64 k, undef, undef, undef, undef, .bool false, .slice (some ⟨b, off, none⟩) n c3, .int .i64 0, undef, .pointer (some ⟨gb, 0, none⟩), undef, undef, undef, undef, .slice a0 len0 cap0, .slice a2 m2 c2, .tuple #[.slice (some ⟨b, off, none⟩) n c3, .int .i64 0], .slice a2 m2 c2, .tuple #[.slice (some ⟨b, off, none⟩) n c3, .int .i64 0], .slice (some ⟨b, off, none⟩) n c3, .int .i64 0, .int .i64 0, .bool false, .bool false, .slice (some ⟨b, off, none⟩) n c3, .int .i64 (n : Int), .bool false, .bool false, undef, .slice (some ⟨b, off, none⟩) n c3, .int .i64 i, .slice (some ⟨b, off, none⟩) n c3, .int .i64 (n : Int), .int .i64 ((n : Int) - 1), .int .i64 (n1 : Int), .pointer (some ⟨b, off + n1 * 7, none⟩), .agg (orC p1).toArray, .slice (some ⟨b, off, none⟩) n c3, .int .i64 j, .slice (some ⟨b, off, none⟩) n c3, .int .i64 (n : Int), .int .i64 ((n : Int) - 1), .int .i64 (n2 : Int), .pointer (some ⟨b, off + n2 * 7, none⟩), .agg (orC p2).toArray, .slice (some ⟨b, off, none⟩) n c3, .int .i64 k, .slice (some ⟨b, off, none⟩) n c3, .int .i64 (n : Int), .int .i64 ((n : Int) - 1), undef, undef, undef, undef, undef, undef, undef, undef, undef, undef, undef, undef, undef, undef, undef, undef, undef, undef, undef, undef, undef, undef, undef, undef, undef, undef, undef, undef, undef, undef, undef, undef, undef, undef, undef, undef, undef, undef, undef, undef, undef], defers := [] } wk := by
  refine wpAnyH_ready (rs := [21, 24, 26]) (by decide +kernel) (by simp) ?_
  refine (AllReadyH.cons (o := hbNO21) rfl (fun K hK => ?_) (AllReadyH.cons (o := hbNO24) rfl (fun K hK => ?_) (AllReadyH.cons (o := hbNO26) rfl (fun K hK => ?_) AllReadyH.nil)))
  · go_simp
    refine (hb_least k n n3 e3 wk).mono ?_
    rintro e1 w1 ⟨rfl, hw1⟩
    subst hw1
    refine hK.out _ _ hk (fun _ => ?_)
    clear hK K
    try simp only [List.setIfInBounds_toArray, List.set_cons_zero, List.set_cons_succ]
    refine wpAnyH_take (i := 22) (oi := hbNO22) (v := .pointer (some ⟨b, off + n3 * 7, none⟩)) rfl (by kernel_rfl) (by kernel_rfl) (by kernel_rfl) (hP _ _) (Or.inl ⟨by rfl, ?y5⟩) hk ?r5
    case y5 => (intro w hSw; clear hSw; go_simp; first | done | with_reducible rfl)
    simp only [Act.put, List.setIfInBounds_toArray, List.set_cons_zero, List.set_cons_succ]
    refine wpAnyH_take (i := 23) (oi := hbNO23) (v := .agg (orC p3).toArray) rfl (by kernel_rfl) (by kernel_rfl) (by kernel_rfl) (hP _ _) (yieldsIf_load_mid (by rfl) 53 (.tmp 54) rfl b (off + n3 * 7) rfl _ _ (fun W h => nv_range r3 h hbl) Try.underlying53 rfl op_info) hk ?_
    simp only [Act.put, List.setIfInBounds_toArray, List.set_cons_zero, List.set_cons_succ]
    exact hbN8 w3 a2 m2 c2 i j k b off n c3 a0 len0 cap0 p1 p2 p3 n1 n2 n3 h1 h2 h3 hn hbl r1 r2 r3 e1 e2 e3 hw hP hQ _ hk gb hgb
  · rw [if_pos (by rfl)]
    refine wp_alloc_of 53 7 rfl op_zero ?_
    intro cs hcs
    have hga := NV.new (T := 53) (N0 := w3.heap.size) (wr := wk) hk.size hcs
    have hbA : Below wk.heap.size wk (wk.alloc (.cells cs 53)) := (Below.refl _ _).alloc (Nat.le_refl _) _
    have ngagb := Nat.ne_of_gt hgb.lt
    replace hk := bstep hk hbA
    replace hgb := hgb.step hbA
    clear hbA hcs
    generalize wk.heap.size = ga at hga ngagb ⊢
    generalize wk.alloc (.cells cs 53) = wk at hga hgb hk ⊢
    refine hK.out _ _ hk (fun _ => ?_)
    clear hK K
    try simp only [Act.put, List.setIfInBounds_toArray, List.set_cons_zero, List.set_cons_succ]
    exact hbN12 w3 a2 m2 c2 i j k b off n c3 a0 len0 cap0 p1 p2 p3 n1 n2 n3 h1 h2 h3 hn hbl r1 r2 r3 e1 e2 e3 hw hP hQ _ hk ga hga gb hgb ngagb
  · rw [if_pos (by rfl)]
    refine wp_alloc_of 53 7 rfl op_zero ?_
    intro cs hcs
    have hgc := NV.new (T := 53) (N0 := w3.heap.size) (wr := wk) hk.size hcs
    have hbA : Below wk.heap.size wk (wk.alloc (.cells cs 53)) := (Below.refl _ _).alloc (Nat.le_refl _) _
    have ngbgc := Nat.ne_of_lt hgb.lt
    replace hk := bstep hk hbA
    replace hgb := hgb.step hbA
    clear hbA hcs
    generalize wk.heap.size = gc at hgc ngbgc ⊢
    generalize wk.alloc (.cells cs 53) = wk at hgc hgb hk ⊢
    refine hK.out _ _ hk (fun _ => ?_)
    clear hK K
    try simp only [Act.put, List.setIfInBounds_toArray, List.set_cons_zero, List.set_cons_succ]
    exact hbN15 w3 a2 m2 c2 i j k b off n c3 a0 len0 cap0 p1 p2 p3 n1 n2 n3 h1 h2 h3 hn hbl r1 r2 r3 e1 e2 e3 hw hP hQ _ hk gb hgb gc hgc ngbgc
set_option maxRecDepth 100000 in
set_option maxHeartbeats 1000000 in
theorem hbN17 (w3 : World) (a2 : Option Addr) (m2 c2 : Nat) (i j k : Int) (b off n c3 : Nat) (a0 : Option Addr) (len0 cap0 : Nat) (p1 p2 p3 : Opr) (n1 n2 n3 : Nat) (h1 : n1 < n) (h2 : n2 < n) (h3 : n3 < n) (hn : n ≤ 64) (hbl : b < w3.heap.size) (r1 : w3.rangeAt b (off + n1 * 7) (orC p1)) (r2 : w3.rangeAt b (off + n2 * 7) (orC p2)) (r3 : w3.rangeAt b (off + n3 * 7) (orC p3)) (e1 : leastV i 0 ((n : Int) - 1) = n1) (e2 : leastV j 0 ((n : Int) - 1) = n2) (e3 : leastV k 0 ((n : Int) - 1) = n3) (hw : IntKind.i64.wrap ((n : Int) - 1) = (n : Int) - 1) {Q : Exit → Act → World → Prop} (hP : ∀ (d : Option Tmp) (v : Value) (c : List PanicEntry) (a : Act) (w : World), Q (.panic c) (a.put d v) w → Q (.panic c) a w) (hQ : ∀ (wk : World) (hk : (fun W : World => Below w3.heap.size w3 W) wk) (ga : Nat) (hga : wk.heap[ga]? = some (.cells (orC p1).toArray 53 (0, 0))) (qga : w3.heap.size ≤ ga) (gb : Nat) (hgb : wk.heap[gb]? = some (.cells (orC p2).toArray 53 (0, 0))) (qgb : w3.heap.size ≤ gb) (gc : Nat) (hgc : wk.heap[gc]? = some (.cells (orC p3).toArray 53 (0, 0))) (qgc : w3.heap.size ≤ gc) (ngagb : ga ≠ gb) (ngagc : ga ≠ gc) (ngbgc : gb ≠ gc), Q .normal { tmps := #[.slice a2 m2 c2, .int .i64 i, .int .i64 j, .int .i64 k, undef, undef, undef, undef, .bool false, .slice (some ⟨b, off, none⟩) n c3, .int .i64 0, .pointer (some ⟨ga, 0, none⟩), .pointer (some ⟨gb, 0, none⟩), .pointer (some ⟨gc, 0, none⟩), undef, undef, undef, .slice a0 len0 cap0, .slice a2 m2 c2, .tuple #[.slice (some ⟨b, off, none⟩) n c3, .int .i64 0], .slice a2 m2 c2, .tuple #[.slice (some ⟨b, off, none⟩) n c3, .int .i64 0], .slice (some ⟨b, off, none⟩) n c3, .int .i64 0, .int .i64 0, .bool false, .bool false, .slice (some ⟨b, off, none⟩) n c3, .int .i64 (n : Int), .bool false, .bool false, undef, .slice (some ⟨b, off, none⟩) n c3, .int .i64 i, .slice (some ⟨b, off, none⟩) n c3, .int .i64 (n : Int), .int .i64 ((n : Int) - 1), .int .i64 (n1 : Int), .pointer (some ⟨b, off + n1 * 7, none⟩), .agg (orC p1).toArray, .slice (some ⟨b, off, none⟩) n c3, .int .i64 j, .slice (some ⟨b, off, none⟩) n c3, .int .i64 (n : Int), .int .i64 ((n : Int) - 1), .int .i64 (n2 : Int), .pointer (some ⟨b, off + n2 * 7, none⟩), .agg (orC p2).toArray, .slice (some ⟨b, off, none⟩) n c3, .int .i64 k, .slice (some ⟨b, off, none⟩) n c3, .int .i64 (n : Int), .int .i64 ((n : Int) - 1), .int .i64 (n3 : Int), .pointer (some ⟨b, off + n3 * 7, none⟩), .agg (orC p3).toArray, undef, undef, undef, undef, undef, undef, undef, undef, undef, undef, undef, undef, undef, undef, undef, undef, undef, undef, undef, undef, undef, undef, undef, undef, undef, undef, undef, undef, undef, undef, undef, undef, undef, undef, undef, undef, undef, undef], defers := [] } wk) (wk : World) (hk : (fun W : World => Below w3.heap.size w3 W) wk) (gc : Nat) (hgc : NV 53 7 w3.heap.size gc wk) :
    wpAnyH Try.prog .any hbNR Q (fun W : World => Below w3.heap.size w3 W) 8 #[true, true, true, true, true, true, true, true, true, true, true, true, true, true, true, true, true, true, true, true, true, false, false, false, false, false, true, false, false, false] { tmps := #[.slice a2 m2 c2, .int .i64 i, .int .i64 j, .int .i64 k, undef, undef, undef, undef, .bool false, .slice (some ⟨b, off, none⟩) n c3, .int .i64 0, undef, undef, .pointer (some ⟨gc, 0, none⟩), undef, undef, undef, .slice a0 len0 cap0, .slice a2 m2 c2, .tuple #[.slice (some ⟨b, off, none⟩) n c3, .int .i64 0], .slice a2 m2 c2, .tuple #[.slice (some ⟨b, off, none⟩) n c3, .int .i64 0], .slice (some ⟨b, off, none⟩) n c3, .int .i64 0, .int .i64 0, .bool false, .bool false, .slice (some ⟨b, off, none⟩) n c3, .int .i64 (n : Int), .bool false, .bool false, undef, .slice (some ⟨b, off, none⟩) n c3, .int .i64 i, .slice (some ⟨b, off, none⟩) n c3, .int .i64 (n : Int), .int .i64 ((n : Int) - 1), .int .i64 (n1 : Int), .pointer (some ⟨b, off + n1 * 7, none⟩), .agg (orC p1).toArray, .slice (some ⟨b, off, none⟩) n c3, .int .i64 j, .slice (some ⟨b, off, none⟩) n c3, .int .i64 (n : Int), .int .i64 ((n : Int) - 1), .int .i64 (n2 : Int), .pointer (some ⟨b, off + n2 * 7, none⟩), .agg (orC p2).toArray, .slice (some ⟨b, off, none⟩) n c3, .int .i64 k, .slice (some ⟨b, off, none⟩) n c3, .int .i64 (n : Int), .int .i64 ((n : Int) - 1), undef, undef, undef, undef, undef, undef, undef, undef, undef, undef, undef, undef, undef, undef, undef, undef, undef, undef, undef, undef, undef, undef, undef, undef, undef, undef, undef, undef, undef, undef, undef, undef, undef, undef, undef, undef, undef, undef, undef, undef, undef], defers := [] } wk := by
  refine wpAnyH_ready (rs := [21, 24, 25]) (by decide +kernel) (by simp) ?_
  refine (AllReadyH.cons (o := hbNO21) rfl (fun K hK => ?_) (AllReadyH.cons (o := hbNO24) rfl (fun K hK => ?_) (AllReadyH.cons (o := hbNO25) rfl (fun K hK => ?_) AllReadyH.nil)))
  · go_simp
    refine (hb_least k n n3 e3 wk).mono ?_
    rintro e1 w1 ⟨rfl, hw1⟩
    subst hw1
    refine hK.out _ _ hk (fun _ => ?_)
    clear hK K
    try simp only [List.setIfInBounds_toArray, List.set_cons_zero, List.set_cons_succ]
    refine wpAnyH_take (i := 22) (oi := hbNO22) (v := .pointer (some ⟨b, off + n3 * 7, none⟩)) rfl (by kernel_rfl) (by kernel_rfl) (by kernel_rfl) (hP _ _) (Or.inl ⟨by rfl, ?y6⟩) hk ?r6
    case y6 => (intro w hSw; clear hSw; go_simp; first | done | with_reducible rfl)
    simp only [Act.put, List.setIfInBounds_toArray, List.set_cons_zero, List.set_cons_succ]
    refine wpAnyH_take (i := 23) (oi := hbNO23) (v := .agg (orC p3).toArray) rfl (by kernel_rfl) (by kernel_rfl) (by kernel_rfl) (hP _ _) (yieldsIf_load_mid (by rfl) 53 (.tmp 54) rfl b (off + n3 * 7) rfl _ _ (fun W h => nv_range r3 h hbl) Try.underlying53 rfl op_info) hk ?_
    simp only [Act.put, List.setIfInBounds_toArray, List.set_cons_zero, List.set_cons_succ]
    exact hbN9 w3 a2 m2 c2 i j k b off n c3 a0 len0 cap0 p1 p2 p3 n1 n2 n3 h1 h2 h3 hn hbl r1 r2 r3 e1 e2 e3 hw hP hQ _ hk gc hgc
  · rw [if_pos (by rfl)]
    refine wp_alloc_of 53 7 rfl op_zero ?_
    intro cs hcs
    have hga := NV.new (T := 53) (N0 := w3.heap.size) (wr := wk) hk.size hcs
    have hbA : Below wk.heap.size wk (wk.alloc (.cells cs 53)) := (Below.refl _ _).alloc (Nat.le_refl _) _
    have ngagc := Nat.ne_of_gt hgc.lt
    replace hk := bstep hk hbA
    replace hgc := hgc.step hbA
    clear hbA hcs
    generalize wk.heap.size = ga at hga ngagc ⊢
    generalize wk.alloc (.cells cs 53) = wk at hga hgc hk ⊢
    refine hK.out _ _ hk (fun _ => ?_)
    clear hK K
    try simp only [Act.put, List.setIfInBounds_toArray, List.set_cons_zero, List.set_cons_succ]
    exact hbN13 w3 a2 m2 c2 i j k b off n c3 a0 len0 cap0 p1 p2 p3 n1 n2 n3 h1 h2 h3 hn hbl r1 r2 r3 e1 e2 e3 hw hP hQ _ hk ga hga gc hgc ngagc
  · rw [if_pos (by rfl)]
    refine wp_alloc_of 53 7 rfl op_zero ?_
    intro cs hcs
    have hgb := NV.new (T := 53) (N0 := w3.heap.size) (wr := wk) hk.size hcs
    have hbA : Below wk.heap.size wk (wk.alloc (.cells cs 53)) := (Below.refl _ _).alloc (Nat.le_refl _) _
    have ngbgc := Nat.ne_of_gt hgc.lt
    replace hk := bstep hk hbA
    replace hgc := hgc.step hbA
    clear hbA hcs
    generalize wk.heap.size = gb at hgb ngbgc ⊢
    generalize wk.alloc (.cells cs 53) = wk at hgb hgc hk ⊢
    refine hK.out _ _ hk (fun _ => ?_)
    clear hK K
    try simp only [Act.put, List.setIfInBounds_toArray, List.set_cons_zero, List.set_cons_succ]
    exact hbN15 w3 a2 m2 c2 i j k b off n c3 a0 len0 cap0 p1 p2 p3 n1 n2 n3 h1 h2 h3 hn hbl r1 r2 r3 e1 e2 e3 hw hP hQ _ hk gb hgb gc hgc ngbgc
set_option maxRecDepth 100000 in
set_option maxHeartbeats 1000000 in
theorem hbN18 (w3 : World) (a2 : Option Addr) (m2 c2 : Nat) (i j k : Int) (b off n c3 : Nat) (a0 : Option Addr) (len0 cap0 : Nat) (p1 p2 p3 : Opr) (n1 n2 n3 : Nat) (h1 : n1 < n) (h2 : n2 < n) (h3 : n3 < n) (hn : n ≤ 64) (hbl : b < w3.heap.size) (r1 : w3.rangeAt b (off + n1 * 7) (orC p1)) (r2 : w3.rangeAt b (off + n2 * 7) (orC p2)) (r3 : w3.rangeAt b (off + n3 * 7) (orC p3)) (e1 : leastV i 0 ((n : Int) - 1) = n1) (e2 : leastV j 0 ((n : Int) - 1) = n2) (e3 : leastV k 0 ((n : Int) - 1) = n3) (hw : IntKind.i64.wrap ((n : Int) - 1) = (n : Int) - 1) {Q : Exit → Act → World → Prop} (hP : ∀ (d : Option Tmp) (v : Value) (c : List PanicEntry) (a : Act) (w : World), Q (.panic c) (a.put d v) w → Q (.panic c) a w) (hQ : ∀ (wk : World) (hk : (fun W : World => Below w3.heap.size w3 W) wk) (ga : Nat) (hga : wk.heap[ga]? = some (.cells (orC p1).toArray 53 (0, 0))) (qga : w3.heap.size ≤ ga) (gb : Nat) (hgb : wk.heap[gb]? = some (.cells (orC p2).toArray 53 (0, 0))) (qgb : w3.heap.size ≤ gb) (gc : Nat) (hgc : wk.heap[gc]? = some (.cells (orC p3).toArray 53 (0, 0))) (qgc : w3.heap.size ≤ gc) (ngagb : ga ≠ gb) (ngagc : ga ≠ gc) (ngbgc : gb ≠ gc), Q .normal { tmps := #[.slice a2 m2 c2, .int .i64 i, .int .i64 j, .int .i64 k, undef, undef, undef, undef, .bool false, .slice (some ⟨b, off, none⟩) n c3, .int .i64 0, .pointer (some ⟨ga, 0, none⟩), .pointer (some ⟨gb, 0, none⟩), .pointer (some ⟨gc, 0, none⟩), undef, undef, undef, .slice a0 len0 cap0, .slice a2 m2 c2, .tuple #[.slice (some ⟨b, off, none⟩) n c3, .int .i64 0], .slice a2 m2 c2, .tuple #[.slice (some ⟨b, off, none⟩) n c3, .int .i64 0], .slice (some ⟨b, off, none⟩) n c3, .int .i64 0, .int .i64 0, .bool false, .bool false, .slice (some ⟨b, off, none⟩) n c3, .int .i64 (n : Int), .bool false, .bool false, undef, .slice (some ⟨b, off, none⟩) n c3, .int .i64 i, .slice (some ⟨b, off, none⟩) n c3, .int .i64 (n : Int), .int .i64 ((n : Int) - 1), .int .i64 (n1 : Int), .pointer (some ⟨b, off + n1 * 7, none⟩), .agg (orC p1).toArray, .slice (some ⟨b, off, none⟩) n c3, .int .i64 j, .slice (some ⟨b, off, none⟩) n c3, .int .i64 (n : Int), .int .i64 ((n : Int) - 1), .int .i64 (n2 : Int), .pointer (some ⟨b, off + n2 * 7, none⟩), .agg (orC p2).toArray, .slice (some ⟨b, off, none⟩) n c3, .int .i64 k, .slice (some ⟨b, off, none⟩) n c3, .int .i64 (n : Int), .int .i64 ((n : Int) - 1), .int .i64 (n3 : Int), .pointer (some ⟨b, off + n3 * 7, none⟩), .agg (orC p3).toArray, undef, undef, undef, undef, undef, undef, undef, undef, undef, undef, undef, undef, undef, undef, undef, undef, undef, undef, undef, undef, undef, undef, undef, undef, undef, undef, undef, undef, undef, undef, undef, undef, undef, undef, undef, undef, undef, undef], defers := [] } wk) (wk : World) (hk : (fun W : World => Below w3.heap.size w3 W) wk)  :
    wpAnyH Try.prog .any hbNR Q (fun W : World => Below w3.heap.size w3 W) 9 #[true, true, true, true, true, true, true, true, true, true, true, true, true, true, true, true, true, true, true, true, true, false, false, false, false, false, false, false, false, false] { tmps := #[.slice a2 m2 c2, .int .i64 i, .int .i64 j, .int .i64 k, undef, undef, undef, undef, .bool false, .slice (some ⟨b, off, none⟩) n c3, .int .i64 0, undef, undef, undef, undef, undef, undef, .slice a0 len0 cap0, .slice a2 m2 c2, .tuple #[.slice (some ⟨b, off, none⟩) n c3, .int .i64 0], .slice a2 m2 c2, .tuple #[.slice (some ⟨b, off, none⟩) n c3, .int .i64 0], .slice (some ⟨b, off, none⟩) n c3, .int .i64 0, .int .i64 0, .bool false, .bool false, .slice (some ⟨b, off, none⟩) n c3, .int .i64 (n : Int), .bool false, .bool false, undef, .slice (some ⟨b, off, none⟩) n c3, .int .i64 i, .slice (some ⟨b, off, none⟩) n c3, .int .i64 (n : Int), .int .i64 ((n : Int) - 1), .int .i64 (n1 : Int), .pointer (some ⟨b, off + n1 * 7, none⟩), .agg (orC p1).toArray, .slice (some ⟨b, off, none⟩) n c3, .int .i64 j, .slice (some ⟨b, off, none⟩) n c3, .int .i64 (n : Int), .int .i64 ((n : Int) - 1), .int .i64 (n2 : Int), .pointer (some ⟨b, off + n2 * 7, none⟩), .agg (orC p2).toArray, .slice (some ⟨b, off, none⟩) n c3, .int .i64 k, .slice (some ⟨b, off, none⟩) n c3, .int .i64 (n : Int), .int .i64 ((n : Int) - 1), undef, undef, undef, undef, undef, undef, undef, undef, undef, undef, undef, undef, undef, undef, undef, undef, undef, undef, undef, undef, undef, undef, undef, undef, undef, undef, undef, undef, undef, undef, undef, undef, undef, undef, undef, undef, undef, undef, undef, undef, undef], defers := [] } wk := by
  refine wpAnyH_ready (rs := [21, 24, 25, 26]) (by decide +kernel) (by simp) ?_
  refine (AllReadyH.cons (o := hbNO21) rfl (fun K hK => ?_) (AllReadyH.cons (o := hbNO24) rfl (fun K hK => ?_) (AllReadyH.cons (o := hbNO25) rfl (fun K hK => ?_) (AllReadyH.cons (o := hbNO26) rfl (fun K hK => ?_) AllReadyH.nil))))
  · go_simp
    refine (hb_least k n n3 e3 wk).mono ?_
    rintro e1 w1 ⟨rfl, hw1⟩
    subst hw1
    refine hK.out _ _ hk (fun _ => ?_)
    clear hK K
    try simp only [List.setIfInBounds_toArray, List.set_cons_zero, List.set_cons_succ]
    refine wpAnyH_take (i := 22) (oi := hbNO22) (v := .pointer (some ⟨b, off + n3 * 7, none⟩)) rfl (by kernel_rfl) (by kernel_rfl) (by kernel_rfl) (hP _ _) (Or.inl ⟨by rfl, ?y7⟩) hk ?r7
    case y7 => (intro w hSw; clear hSw; go_simp; first | done | with_reducible rfl)
    simp only [Act.put, List.setIfInBounds_toArray, List.set_cons_zero, List.set_cons_succ]
    refine wpAnyH_take (i := 23) (oi := hbNO23) (v := .agg (orC p3).toArray) rfl (by kernel_rfl) (by kernel_rfl) (by kernel_rfl) (hP _ _) (yieldsIf_load_mid (by rfl) 53 (.tmp 54) rfl b (off + n3 * 7) rfl _ _ (fun W h => nv_range r3 h hbl) Try.underlying53 rfl op_info) hk ?_
    simp only [Act.put, List.setIfInBounds_toArray, List.set_cons_zero, List.set_cons_succ]
    exact hbN10 w3 a2 m2 c2 i j k b off n c3 a0 len0 cap0 p1 p2 p3 n1 n2 n3 h1 h2 h3 hn hbl r1 r2 r3 e1 e2 e3 hw hP hQ _ hk 
  · rw [if_pos (by rfl)]
    refine wp_alloc_of 53 7 rfl op_zero ?_
    intro cs hcs
    have hga := NV.new (T := 53) (N0 := w3.heap.size) (wr := wk) hk.size hcs
    have hbA : Below wk.heap.size wk (wk.alloc (.cells cs 53)) := (Below.refl _ _).alloc (Nat.le_refl _) _
    replace hk := bstep hk hbA
    clear hbA hcs
    generalize wk.heap.size = ga at hga  ⊢
    generalize wk.alloc (.cells cs 53) = wk at hga  hk ⊢
    refine hK.out _ _ hk (fun _ => ?_)
    clear hK K
    try simp only [Act.put, List.setIfInBounds_toArray, List.set_cons_zero, List.set_cons_succ]
    exact hbN14 w3 a2 m2 c2 i j k b off n c3 a0 len0 cap0 p1 p2 p3 n1 n2 n3 h1 h2 h3 hn hbl r1 r2 r3 e1 e2 e3 hw hP hQ _ hk ga hga
  · rw [if_pos (by rfl)]
    refine wp_alloc_of 53 7 rfl op_zero ?_
    intro cs hcs
    have hgb := NV.new (T := 53) (N0 := w3.heap.size) (wr := wk) hk.size hcs
    have hbA : Below wk.heap.size wk (wk.alloc (.cells cs 53)) := (Below.refl _ _).alloc (Nat.le_refl _) _
    replace hk := bstep hk hbA
    clear hbA hcs
    generalize wk.heap.size = gb at hgb  ⊢
    generalize wk.alloc (.cells cs 53) = wk at hgb  hk ⊢
    refine hK.out _ _ hk (fun _ => ?_)
    clear hK K
    try simp only [Act.put, List.setIfInBounds_toArray, List.set_cons_zero, List.set_cons_succ]
    exact hbN16 w3 a2 m2 c2 i j k b off n c3 a0 len0 cap0 p1 p2 p3 n1 n2 n3 h1 h2 h3 hn hbl r1 r2 r3 e1 e2 e3 hw hP hQ _ hk gb hgb
  · rw [if_pos (by rfl)]
    refine wp_alloc_of 53 7 rfl op_zero ?_
    intro cs hcs
    have hgc := NV.new (T := 53) (N0 := w3.heap.size) (wr := wk) hk.size hcs
    have hbA : Below wk.heap.size wk (wk.alloc (.cells cs 53)) := (Below.refl _ _).alloc (Nat.le_refl _) _
    replace hk := bstep hk hbA
    clear hbA hcs
    generalize wk.heap.size = gc at hgc  ⊢
    generalize wk.alloc (.cells cs 53) = wk at hgc  hk ⊢
    refine hK.out _ _ hk (fun _ => ?_)
    clear hK K
    try simp only [Act.put, List.setIfInBounds_toArray, List.set_cons_zero, List.set_cons_succ]
    exact hbN17 w3 a2 m2 c2 i j k b off n c3 a0 len0 cap0 p1 p2 p3 n1 n2 n3 h1 h2 h3 hn hbl r1 r2 r3 e1 e2 e3 hw hP hQ _ hk gc hgc
set_option maxRecDepth 100000 in
set_option maxHeartbeats 1000000 in
theorem hbN19 (w3 : World) (a2 : Option Addr) (m2 c2 : Nat) (i j k : Int) (b off n c3 : Nat) (a0 : Option Addr) (len0 cap0 : Nat) (p1 p2 p3 : Opr) (n1 n2 n3 : Nat) (h1 : n1 < n) (h2 : n2 < n) (h3 : n3 < n) (hn : n ≤ 64) (hbl : b < w3.heap.size) (r1 : w3.rangeAt b (off + n1 * 7) (orC p1)) (r2 : w3.rangeAt b (off + n2 * 7) (orC p2)) (r3 : w3.rangeAt b (off + n3 * 7) (orC p3)) (e1 : leastV i 0 ((n : Int) - 1) = n1) (e2 : leastV j 0 ((n : Int) - 1) = n2) (e3 : leastV k 0 ((n : Int) - 1) = n3) (hw : IntKind.i64.wrap ((n : Int) - 1) = (n : Int) - 1) {Q : Exit → Act → World → Prop} (hP : ∀ (d : Option Tmp) (v : Value) (c : List PanicEntry) (a : Act) (w : World), Q (.panic c) (a.put d v) w → Q (.panic c) a w) (hQ : ∀ (wk : World) (hk : (fun W : World => Below w3.heap.size w3 W) wk) (ga : Nat) (hga : wk.heap[ga]? = some (.cells (orC p1).toArray 53 (0, 0))) (qga : w3.heap.size ≤ ga) (gb : Nat) (hgb : wk.heap[gb]? = some (.cells (orC p2).toArray 53 (0, 0))) (qgb : w3.heap.size ≤ gb) (gc : Nat) (hgc : wk.heap[gc]? = some (.cells (orC p3).toArray 53 (0, 0))) (qgc : w3.heap.size ≤ gc) (ngagb : ga ≠ gb) (ngagc : ga ≠ gc) (ngbgc : gb ≠ gc), Q .normal { tmps := #[.slice a2 m2 c2, .int .i64 i, .int .i64 j, .int .i64 k, undef, undef, undef, undef, .bool false, .slice (some ⟨b, off, none⟩) n c3, .int .i64 0, .pointer (some ⟨ga, 0, none⟩), .pointer (some ⟨gb, 0, none⟩), .pointer (some ⟨gc, 0, none⟩), undef, undef, undef, .slice a0 len0 cap0, .slice a2 m2 c2, .tuple #[.slice (some ⟨b, off, none⟩) n c3, .int .i64 0], .slice a2 m2 c2, .tuple #[.slice (some ⟨b, off, none⟩) n c3, .int .i64 0], .slice (some ⟨b, off, none⟩) n c3, .int .i64 0, .int .i64 0, .bool false, .bool false, .slice (some ⟨b, off, none⟩) n c3, .int .i64 (n : Int), .bool false, .bool false, undef, .slice (some ⟨b, off, none⟩) n c3, .int .i64 i, .slice (some ⟨b, off, none⟩) n c3, .int .i64 (n : Int), .int .i64 ((n : Int) - 1), .int .i64 (n1 : Int), .pointer (some ⟨b, off + n1 * 7, none⟩), .agg (orC p1).toArray, .slice (some ⟨b, off, none⟩) n c3, .int .i64 j, .slice (some ⟨b, off, none⟩) n c3, .int .i64 (n : Int), .int .i64 ((n : Int) - 1), .int .i64 (n2 : Int), .pointer (some ⟨b, off + n2 * 7, none⟩), .agg (orC p2).toArray, .slice (some ⟨b, off, none⟩) n c3, .int .i64 k, .slice (some ⟨b, off, none⟩) n c3, .int .i64 (n : Int), .int .i64 ((n : Int) - 1), .int .i64 (n3 : Int), .pointer (some ⟨b, off + n3 * 7, none⟩), .agg (orC p3).toArray, undef, undef, undef, undef, undef, undef, undef, undef, undef, undef, undef, undef, undef, undef, undef, undef, undef, undef, undef, undef, undef, undef, undef, undef, undef, undef, undef, undef, undef, undef, undef, undef, undef, undef, undef, undef, undef, undef], defers := [] } wk) (wk : World) (hk : (fun W : World => Below w3.heap.size w3 W) wk) (ga : Nat) (hga : NV 53 7 w3.heap.size ga wk) (gb : Nat) (hgb : NV 53 7 w3.heap.size gb wk) (gc : Nat) (hgc : NV 53 7 w3.heap.size gc wk) (ngagb : ga ≠ gb) (ngagc : ga ≠ gc) (ngbgc : gb ≠ gc) :
    wpAnyH Try.prog .any hbNR Q (fun W : World => Below w3.heap.size w3 W) 9 #[true, true, true, true, true, true, true, true, true, true, true, true, true, false, false, false, true, true, true, true, true, false, false, false, true, true, true, false, false, false] { tmps := #[.slice a2 m2 c2, .int .i64 i, .int .i64 j, .int .i64 k, undef, undef, undef, undef, .bool false, .slice (some ⟨b, off, none⟩) n c3, .int .i64 0, .pointer (some ⟨ga, 0, none⟩), .pointer (some ⟨gb, 0, none⟩), .pointer (some ⟨gc, 0, none⟩), undef, undef, undef, .slice a0 len0 cap0, .slice a2 m2 c2, .tuple #[.slice (some ⟨b, off, none⟩) n c3, .int .i64 0], .slice a2 m2 c2, .tuple #[.slice (some ⟨b, off, none⟩) n c3, .int .i64 0], .slice (some ⟨b, off, none⟩) n c3, .int .i64 0, .int .i64 0, .bool false, .bool false, .slice (some ⟨b, off, none⟩) n c3, .int .i64 (n : Int), .bool false, .bool false, undef, .slice (some ⟨b, off, none⟩) n c3, .int .i64 i, .slice (some ⟨b, off, none⟩) n c3, .int .i64 (n : Int), .int .i64 ((n : Int) - 1), .int .i64 (n1 : Int), .pointer (some ⟨b, off + n1 * 7, none⟩), .agg (orC p1).toArray, .slice (some ⟨b, off, none⟩) n c3, .int .i64 j, .slice (some ⟨b, off, none⟩) n c3, .int .i64 (n : Int), .int .i64 ((n : Int) - 1), undef, undef, undef, .slice (some ⟨b, off, none⟩) n c3, .int .i64 k, .slice (some ⟨b, off, none⟩) n c3, .int .i64 (n : Int), .int .i64 ((n : Int) - 1), undef, undef, undef, undef, undef, undef, undef, undef, undef, undef, undef, undef, undef, undef, undef, undef, undef, undef, undef, undef, undef, undef, undef, undef, undef, undef, undef, undef, undef, undef, undef, undef, undef, undef, undef, undef, undef, undef, undef, undef, undef], defers := [] } wk := by
  refine wpAnyH_ready (rs := [13]) (by decide +kernel) (by simp) ?_
  refine (AllReadyH.cons (o := hbNO13) rfl (fun K hK => ?_) AllReadyH.nil)
  · go_simp
    refine (hb_least j n n2 e2 wk).mono ?_
    rintro e1 w1 ⟨rfl, hw1⟩
    subst hw1
    refine hK.out _ _ hk (fun _ => ?_)
    clear hK K
    try simp only [List.setIfInBounds_toArray, List.set_cons_zero, List.set_cons_succ]
    refine wpAnyH_take (i := 14) (oi := hbNO14) (v := .pointer (some ⟨b, off + n2 * 7, none⟩)) rfl (by kernel_rfl) (by kernel_rfl) (by kernel_rfl) (hP _ _) (Or.inl ⟨by rfl, ?y8⟩) hk ?r8
    case y8 => (intro w hSw; clear hSw; go_simp; first | done | with_reducible rfl)
    simp only [Act.put, List.setIfInBounds_toArray, List.set_cons_zero, List.set_cons_succ]
    refine wpAnyH_take (i := 15) (oi := hbNO15) (v := .agg (orC p2).toArray) rfl (by kernel_rfl) (by kernel_rfl) (by kernel_rfl) (hP _ _) (yieldsIf_load_mid (by rfl) 53 (.tmp 46) rfl b (off + n2 * 7) rfl _ _ (fun W h => nv_range r2 h hbl) Try.underlying53 rfl op_info) hk ?_
    simp only [Act.put, List.setIfInBounds_toArray, List.set_cons_zero, List.set_cons_succ]
    exact hbN11 w3 a2 m2 c2 i j k b off n c3 a0 len0 cap0 p1 p2 p3 n1 n2 n3 h1 h2 h3 hn hbl r1 r2 r3 e1 e2 e3 hw hP hQ _ hk ga hga gb hgb gc hgc ngagb ngagc ngbgc
set_option maxRecDepth 100000 in
set_option maxHeartbeats 1000000 in
theorem hbN20 (w3 : World) (a2 : Option Addr) (m2 c2 : Nat) (i j k : Int) (b off n c3 : Nat) (a0 : Option Addr) (len0 cap0 : Nat) (p1 p2 p3 : Opr) (n1 n2 n3 : Nat) (h1 : n1 < n) (h2 : n2 < n) (h3 : n3 < n) (hn : n ≤ 64) (hbl : b < w3.heap.size) (r1 : w3.rangeAt b (off + n1 * 7) (orC p1)) (r2 : w3.rangeAt b (off + n2 * 7) (orC p2)) (r3 : w3.rangeAt b (off + n3 * 7) (orC p3)) (e1 : leastV i 0 ((n : Int) - 1) = n1) (e2 : leastV j 0 ((n : Int) - 1) = n2) (e3 : leastV k 0 ((n : Int) - 1) = n3) (hw : IntKind.i64.wrap ((n : Int) - 1) = (n : Int) - 1) {Q : Exit → Act → World → Prop} (hP : ∀ (d : Option Tmp) (v : Value) (c : List PanicEntry) (a : Act) (w : World), Q (.panic c) (a.put d v) w → Q (.panic c) a w) (hQ : ∀ (wk : World) (hk : (fun W : World => Below w3.heap.size w3 W) wk) (ga : Nat) (hga : wk.heap[ga]? = some (.cells (orC p1).toArray 53 (0, 0))) (qga : w3.heap.size ≤ ga) (gb : Nat) (hgb : wk.heap[gb]? = some (.cells (orC p2).toArray 53 (0, 0))) (qgb : w3.heap.size ≤ gb) (gc : Nat) (hgc : wk.heap[gc]? = some (.cells (orC p3).toArray 53 (0, 0))) (qgc : w3.heap.size ≤ gc) (ngagb : ga ≠ gb) (ngagc : ga ≠ gc) (ngbgc : gb ≠ gc), Q .normal { tmps := #[.slice a2 m2 c2, .int .i64 i, .int .i64 j, .int .i64 k, undef, undef, undef, undef, .bool false, .slice (some ⟨b, off, none⟩) n c3, .int .i64 0, .pointer (some ⟨ga, 0, none⟩), .pointer (some ⟨gb, 0, none⟩), .pointer (some ⟨gc, 0, none⟩), undef, undef, undef, .slice a0 len0 cap0, .slice a2 m2 c2, .tuple #[.slice (some ⟨b, off, none⟩) n c3, .int .i64 0], .slice a2 m2 c2, .tuple #[.slice (some ⟨b, off, none⟩) n c3, .int .i64 0], .slice (some ⟨b, off, none⟩) n c3, .int .i64 0, .int .i64 0, .bool false, .bool false, .slice (some ⟨b, off, none⟩) n c3, .int .i64 (n : Int), .bool false, .bool false, undef, .slice (some ⟨b, off, none⟩) n c3, .int .i64 i, .slice (some ⟨b, off, none⟩) n c3, .int .i64 (n : Int), .int .i64 ((n : Int) - 1), .int .i64 (n1 : Int), .pointer (some ⟨b, off + n1 * 7, none⟩), .agg (orC p1).toArray, .slice (some ⟨b, off, none⟩) n c3, .int .i64 j, .slice (some ⟨b, off, none⟩) n c3, .int .i64 (n : Int), .int .i64 ((n : Int) - 1), .int .i64 (n2 : Int), .pointer (some ⟨b, off + n2 * 7, none⟩), .agg (orC p2).toArray, .slice (some ⟨b, off, none⟩) n c3, .int .i64 k, .slice (some ⟨b, off, none⟩) n c3, .int .i64 (n : Int), .int .i64 ((n : Int) - 1), .int .i64 (n3 : Int), .pointer (some ⟨b, off + n3 * 7, none⟩), .agg (orC p3).toArray, undef, undef, undef, undef, undef, undef, undef, undef, undef, undef, undef, undef, undef, undef, undef, undef, undef, undef, undef, undef, undef, undef, undef, undef, undef, undef, undef, undef, undef, undef, undef, undef, undef, undef, undef, undef, undef, undef], defers := [] } wk) (wk : World) (hk : (fun W : World => Below w3.heap.size w3 W) wk) (ga : Nat) (hga : NV 53 7 w3.heap.size ga wk) (gb : Nat) (hgb : NV 53 7 w3.heap.size gb wk) (ngagb : ga ≠ gb) :
    wpAnyH Try.prog .any hbNR Q (fun W : World => Below w3.heap.size w3 W) 10 #[true, true, true, true, true, true, true, true, true, true, true, true, true, false, false, false, true, true, true, true, true, false, false, false, true, true, false, false, false, false] { tmps := #[.slice a2 m2 c2, .int .i64 i, .int .i64 j, .int .i64 k, undef, undef, undef, undef, .bool false, .slice (some ⟨b, off, none⟩) n c3, .int .i64 0, .pointer (some ⟨ga, 0, none⟩), .pointer (some ⟨gb, 0, none⟩), undef, undef, undef, undef, .slice a0 len0 cap0, .slice a2 m2 c2, .tuple #[.slice (some ⟨b, off, none⟩) n c3, .int .i64 0], .slice a2 m2 c2, .tuple #[.slice (some ⟨b, off, none⟩) n c3, .int .i64 0], .slice (some ⟨b, off, none⟩) n c3, .int .i64 0, .int .i64 0, .bool false, .bool false, .slice (some ⟨b, off, none⟩) n c3, .int .i64 (n : Int), .bool false, .bool false, undef, .slice (some ⟨b, off, none⟩) n c3, .int .i64 i, .slice (some ⟨b, off, none⟩) n c3, .int .i64 (n : Int), .int .i64 ((n : Int) - 1), .int .i64 (n1 : Int), .pointer (some ⟨b, off + n1 * 7, none⟩), .agg (orC p1).toArray, .slice (some ⟨b, off, none⟩) n c3, .int .i64 j, .slice (some ⟨b, off, none⟩) n c3, .int .i64 (n : Int), .int .i64 ((n : Int) - 1), undef, undef, undef, .slice (some ⟨b, off, none⟩) n c3, .int .i64 k, .slice (some ⟨b, off, none⟩) n c3, .int .i64 (n : Int), .int .i64 ((n : Int) - 1), undef, undef, undef, undef, undef, undef, undef, undef, undef, undef, undef, undef, undef, undef, undef, undef, undef, undef, undef, undef, undef, undef, undef, undef, undef, undef, undef, undef, undef, undef, undef, undef, undef, undef, undef, undef, undef, undef, undef, undef, undef], defers := [] } wk := by
  refine wpAnyH_ready (rs := [13, 26]) (by decide +kernel) (by simp) ?_
  refine (AllReadyH.cons (o := hbNO13) rfl (fun K hK => ?_) (AllReadyH.cons (o := hbNO26) rfl (fun K hK => ?_) AllReadyH.nil))
  · go_simp
    refine (hb_least j n n2 e2 wk).mono ?_
    rintro e1 w1 ⟨rfl, hw1⟩
    subst hw1
    refine hK.out _ _ hk (fun _ => ?_)
    clear hK K
    try simp only [List.setIfInBounds_toArray, List.set_cons_zero, List.set_cons_succ]
    refine wpAnyH_take (i := 14) (oi := hbNO14) (v := .pointer (some ⟨b, off + n2 * 7, none⟩)) rfl (by kernel_rfl) (by kernel_rfl) (by kernel_rfl) (hP _ _) (Or.inl ⟨by rfl, ?y9⟩) hk ?r9
    case y9 => (intro w hSw; clear hSw; go_simp; first | done | with_reducible rfl)
    simp only [Act.put, List.setIfInBounds_toArray, List.set_cons_zero, List.set_cons_succ]
    refine wpAnyH_take (i := 15) (oi := hbNO15) (v := .agg (orC p2).toArray) rfl (by kernel_rfl) (by kernel_rfl) (by kernel_rfl) (hP _ _) (yieldsIf_load_mid (by rfl) 53 (.tmp 46) rfl b (off + n2 * 7) rfl _ _ (fun W h => nv_range r2 h hbl) Try.underlying53 rfl op_info) hk ?_
    simp only [Act.put, List.setIfInBounds_toArray, List.set_cons_zero, List.set_cons_succ]
    exact hbN12 w3 a2 m2 c2 i j k b off n c3 a0 len0 cap0 p1 p2 p3 n1 n2 n3 h1 h2 h3 hn hbl r1 r2 r3 e1 e2 e3 hw hP hQ _ hk ga hga gb hgb ngagb
  · rw [if_pos (by rfl)]
    refine wp_alloc_of 53 7 rfl op_zero ?_
    intro cs hcs
    have hgc := NV.new (T := 53) (N0 := w3.heap.size) (wr := wk) hk.size hcs
    have hbA : Below wk.heap.size wk (wk.alloc (.cells cs 53)) := (Below.refl _ _).alloc (Nat.le_refl _) _
    have ngagc := Nat.ne_of_lt hga.lt
    have ngbgc := Nat.ne_of_lt hgb.lt
    replace hk := bstep hk hbA
    replace hga := hga.step hbA
    replace hgb := hgb.step hbA
    clear hbA hcs
    generalize wk.heap.size = gc at hgc ngagc ngbgc ⊢
    generalize wk.alloc (.cells cs 53) = wk at hgc hga hgb hk ⊢
    refine hK.out _ _ hk (fun _ => ?_)
    clear hK K
    try simp only [Act.put, List.setIfInBounds_toArray, List.set_cons_zero, List.set_cons_succ]
    exact hbN19 w3 a2 m2 c2 i j k b off n c3 a0 len0 cap0 p1 p2 p3 n1 n2 n3 h1 h2 h3 hn hbl r1 r2 r3 e1 e2 e3 hw hP hQ _ hk ga hga gb hgb gc hgc ngagb ngagc ngbgc
set_option maxRecDepth 100000 in
set_option maxHeartbeats 1000000 in
theorem hbN21 (w3 : World) (a2 : Option Addr) (m2 c2 : Nat) (i j k : Int) (b off n c3 : Nat) (a0 : Option Addr) (len0 cap0 : Nat) (p1 p2 p3 : Opr) (n1 n2 n3 : Nat) (h1 : n1 < n) (h2 : n2 < n) (h3 : n3 < n) (hn : n ≤ 64) (hbl : b < w3.heap.size) (r1 : w3.rangeAt b (off + n1 * 7) (orC p1)) (r2 : w3.rangeAt b (off + n2 * 7) (orC p2)) (r3 : w3.rangeAt b (off + n3 * 7) (orC p3)) (e1 : leastV i 0 ((n : Int) - 1) = n1) (e2 : leastV j 0 ((n : Int) - 1) = n2) (e3 : leastV k 0 ((n : Int) - 1) = n3) (hw : IntKind.i64.wrap ((n : Int) - 1) = (n : Int) - 1) {Q : Exit → Act → World → Prop} (hP : ∀ (d : Option Tmp) (v : Value) (c : List PanicEntry) (a : Act) (w : World), Q (.panic c) (a.put d v) w → Q (.panic c) a w) (hQ : ∀ (wk : World) (hk : (fun W : World => Below w3.heap.size w3 W) wk) (ga : Nat) (hga : wk.heap[ga]? = some (.cells (orC p1).toArray 53 (0, 0))) (qga : w3.heap.size ≤ ga) (gb : Nat) (hgb : wk.heap[gb]? = some (.cells (orC p2).toArray 53 (0, 0))) (qgb : w3.heap.size ≤ gb) (gc : Nat) (hgc : wk.heap[gc]? = some (.cells (orC p3).toArray 53 (0, 0))) (qgc : w3.heap.size ≤ gc) (ngagb : ga ≠ gb) (ngagc : ga ≠ gc) (ngbgc : gb ≠ gc), Q .normal { tmps := #[.slice a2 m2 c2, .int .i64 i, .int .i64 j, .int .i64 k, undef, undef, undef, undef, .bool false, .slice (some ⟨b, off, none⟩) n c3, .int .i64 0, .pointer (some ⟨ga, 0, none⟩), .pointer (some ⟨gb, 0, none⟩), .pointer (some ⟨gc, 0, none⟩), undef, undef, undef, .slice a0 len0 cap0, .slice a2 m2 c2, .tuple #[.slice (some ⟨b, off, none⟩) n c3, .int .i64 0], .slice a2 m2 c2, .tuple #[.slice (some ⟨b, off, none⟩) n c3, .int .i64 0], .slice (some ⟨b, off, none⟩) n c3, .int .i64 0, .int .i64 0, .bool false, .bool false, .slice (some ⟨b, off, none⟩) n c3, .int .i64 (n : Int), .bool false, .bool false, undef, .slice (some ⟨b, off, none⟩) n c3, .int .i64 i, .slice (some ⟨b, off, none⟩) n c3, .int .i64 (n : Int), .int .i64 ((n : Int) - 1), .int .i64 (n1 : Int), .pointer (some ⟨b, off + n1 * 7, none⟩), .agg (orC p1).toArray, .slice (some ⟨b, off, none⟩) n c3, .int .i64 j, .slice (some ⟨b, off, none⟩) n c3, .int .i64 (n : Int), .int .i64 ((n : Int) - 1), .int .i64 (n2 : Int), .pointer (some ⟨b, off + n2 * 7, none⟩), .agg (orC p2).toArray, .slice (some ⟨b, off, none⟩) n c3, .int .i64 k, .slice (some ⟨b, off, none⟩) n c3, .int .i64 (n : Int), .int .i64 ((n : Int) - 1), .int .i64 (n3 : Int), .pointer (some ⟨b, off + n3 * 7, none⟩), .agg (orC p3).toArray, undef, undef, undef, undef, undef, undef, undef, undef, undef, undef, undef, undef, undef, undef, undef, undef, undef, undef, undef, undef, undef, undef, undef, undef, undef, undef, undef, undef, undef, undef, undef, undef, undef, undef, undef, undef, undef, undef], defers := [] } wk) (wk : World) (hk : (fun W : World => Below w3.heap.size w3 W) wk) (ga : Nat) (hga : NV 53 7 w3.heap.size ga wk) (gc : Nat) (hgc : NV 53 7 w3.heap.size gc wk) (ngagc : ga ≠ gc) :
    wpAnyH Try.prog .any hbNR Q (fun W : World => Below w3.heap.size w3 W) 10 #[true, true, true, true, true, true, true, true, true, true, true, true, true, false, false, false, true, true, true, true, true, false, false, false, true, false, true, false, false, false] { tmps := #[.slice a2 m2 c2, .int .i64 i, .int .i64 j, .int .i64 k, undef, undef, undef, undef, .bool false, .slice (some ⟨b, off, none⟩) n c3, .int .i64 0, .pointer (some ⟨ga, 0, none⟩), undef, .pointer (some ⟨gc, 0, none⟩), undef, undef, undef, .slice a0 len0 cap0, .slice a2 m2 c2, .tuple #[.slice (some ⟨b, off, none⟩) n c3, .int .i64 0], .slice a2 m2 c2, .tuple #[.slice (some ⟨b, off, none⟩) n c3, .int .i64 0], .slice (some ⟨b, off, none⟩) n c3, .int .i64 0, .int .i64 0, .bool false, .bool false, .slice (some ⟨b, off, none⟩) n c3, .int .i64 (n : Int), .bool false, .bool false, undef, .slice (some ⟨b, off, none⟩) n c3, .int .i64 i, .slice (some ⟨b, off, none⟩) n c3, .int .i64 (n : Int), .int .i64 ((n : Int) - 1), .int .i64 (n1 : Int), .pointer (some ⟨b, off + n1 * 7, none⟩), .agg (orC p1).toArray, .slice (some ⟨b, off, none⟩) n c3, .int .i64 j, .slice (some ⟨b, off, none⟩) n c3, .int .i64 (n : Int), .int .i64 ((n : Int) - 1), undef, undef, undef, .slice (some ⟨b, off, none⟩) n c3, .int .i64 k, .slice (some ⟨b, off, none⟩) n c3, .int .i64 (n : Int), .int .i64 ((n : Int) - 1), undef, undef, undef, undef, undef, undef, undef, undef, undef, undef, undef, undef, undef, undef, undef, undef, undef, undef, undef, undef, undef, undef, undef, undef, undef, undef, undef, undef, undef, undef, undef, undef, undef, undef, undef, undef, undef, undef, undef, undef, undef], defers := [] } wk := by
  refine wpAnyH_ready (rs := [13, 25]) (by decide +kernel) (by simp) ?_
  refine (AllReadyH.cons (o := hbNO13) rfl (fun K hK => ?_) (AllReadyH.cons (o := hbNO25) rfl (fun K hK => ?_) AllReadyH.nil))
  · go_simp
    refine (hb_least j n n2 e2 wk).mono ?_
    rintro e1 w1 ⟨rfl, hw1⟩
    subst hw1
    refine hK.out _ _ hk (fun _ => ?_)
    clear hK K
    try simp only [List.setIfInBounds_toArray, List.set_cons_zero, List.set_cons_succ]
    refine wpAnyH_take (i := 14) (oi := hbNO14) (v := .pointer (some ⟨b, off + n2 * 7, none⟩)) rfl (by kernel_rfl) (by kernel_rfl) (by kernel_rfl) (hP _ _) (Or.inl ⟨by rfl, ?y10⟩) hk ?r10
    case y10 => (intro w hSw; clear hSw; go_simp; first | done | with_reducible rfl)
    simp only [Act.put, List.setIfInBounds_toArray, List.set_cons_zero, List.set_cons_succ]
    refine wpAnyH_take (i := 15) (oi := hbNO15) (v := .agg (orC p2).toArray) rfl (by kernel_rfl) (by kernel_rfl) (by kernel_rfl) (hP _ _) (yieldsIf_load_mid (by rfl) 53 (.tmp 46) rfl b (off + n2 * 7) rfl _ _ (fun W h => nv_range r2 h hbl) Try.underlying53 rfl op_info) hk ?_
    simp only [Act.put, List.setIfInBounds_toArray, List.set_cons_zero, List.set_cons_succ]
    exact hbN13 w3 a2 m2 c2 i j k b off n c3 a0 len0 cap0 p1 p2 p3 n1 n2 n3 h1 h2 h3 hn hbl r1 r2 r3 e1 e2 e3 hw hP hQ _ hk ga hga gc hgc ngagc
  · rw [if_pos (by rfl)]
    refine wp_alloc_of 53 7 rfl op_zero ?_
    intro cs hcs
    have hgb := NV.new (T := 53) (N0 := w3.heap.size) (wr := wk) hk.size hcs
    have hbA : Below wk.heap.size wk (wk.alloc (.cells cs 53)) := (Below.refl _ _).alloc (Nat.le_refl _) _
    have ngagb := Nat.ne_of_lt hga.lt
    have ngbgc := Nat.ne_of_gt hgc.lt
    replace hk := bstep hk hbA
    replace hga := hga.step hbA
    replace hgc := hgc.step hbA
    clear hbA hcs
    generalize wk.heap.size = gb at hgb ngagb ngbgc ⊢
    generalize wk.alloc (.cells cs 53) = wk at hgb hga hgc hk ⊢
    refine hK.out _ _ hk (fun _ => ?_)
    clear hK K
    try simp only [Act.put, List.setIfInBounds_toArray, List.set_cons_zero, List.set_cons_succ]
    exact hbN19 w3 a2 m2 c2 i j k b off n c3 a0 len0 cap0 p1 p2 p3 n1 n2 n3 h1 h2 h3 hn hbl r1 r2 r3 e1 e2 e3 hw hP hQ _ hk ga hga gb hgb gc hgc ngagb ngagc ngbgc
set_option maxRecDepth 100000 in
set_option maxHeartbeats 1000000 in
theorem hbN22 (w3 : World) (a2 : Option Addr) (m2 c2 : Nat) (i j k : Int) (b off n c3 : Nat) (a0 : Option Addr) (len0 cap0 : Nat) (p1 p2 p3 : Opr) (n1 n2 n3 : Nat) (h1 : n1 < n) (h2 : n2 < n) (h3 : n3 < n) (hn : n ≤ 64) (hbl : b < w3.heap.size) (r1 : w3.rangeAt b (off + n1 * 7) (orC p1)) (r2 : w3.rangeAt b (off + n2 * 7) (orC p2)) (r3 : w3.rangeAt b (off + n3 * 7) (orC p3)) (e1 : leastV i 0 ((n : Int) - 1) = n1) (e2 : leastV j 0 ((n : Int) - 1) = n2) (e3 : leastV k 0 ((n : Int) - 1) = n3) (hw : IntKind.i64.wrap ((n : Int) - 1) = (n : Int) - 1) {Q : Exit → Act → World → Prop} (hP : ∀ (d : Option Tmp) (v : Value) (c : List PanicEntry) (a : Act) (w : World), Q (.panic c) (a.put d v) w → Q (.panic c) a w) (hQ : ∀ (wk : World) (hk : (fun W : World => Below w3.heap.size w3 W) wk) (ga : Nat) (hga : wk.heap[ga]? = some (.cells (orC p1).toArray 53 (0, 0))) (qga : w3.heap.size ≤ ga) (gb : Nat) (hgb : wk.heap[gb]? = some (.cells (orC p2).toArray 53 (0, 0))) (qgb : w3.heap.size ≤ gb) (gc : Nat) (hgc : wk.heap[gc]? = some (.cells (orC p3).toArray 53 (0, 0))) (qgc : w3.heap.size ≤ gc) (ngagb : ga ≠ gb) (ngagc : ga ≠ gc) (ngbgc : gb ≠ gc), Q .normal { tmps := #[.slice a2 m2 c2, .int .i64 i, .int .i64 j, .int .i64 k, undef, undef, undef, undef, .bool false, .slice (some ⟨b, off, none⟩) n c3, .int .i64 0, .pointer (some ⟨ga, 0, none⟩), .pointer (some ⟨gb, 0, none⟩), .pointer (some ⟨gc, 0, none⟩), undef, undef, undef, .slice a0 len0 cap0, .slice a2 m2 c2, .tuple #[.slice (some ⟨b, off, none⟩) n c3, .int .i64 0], .slice a2 m2 c2, .tuple #[.slice (some ⟨b, off, none⟩) n c3, .int .i64 0], .slice (some ⟨b, off, none⟩) n c3, .int .i64 0, .int .i64 0, .bool false, .bool false, .slice (some ⟨b, off, none⟩) n c3, .int .i64 (n : Int), .bool false, .bool false, undef, .slice (some ⟨b, off, none⟩) n c3, .int .i64 i, .slice (some ⟨b, off, none⟩) n c3, .int .i64 (n : Int), .int .i64 ((n : Int) - 1), .int .i64 (n1 : Int), .pointer (some ⟨b, off + n1 * 7, none⟩), .agg (orC p1).toArray, .slice (some ⟨b, off, none⟩) n c3, .int .i64 j, .slice (some ⟨b, off, none⟩) n c3, .int .i64 (n : Int), .int .i64 ((n : Int) - 1), .int .i64 (n2 : Int), .pointer (some ⟨b, off + n2 * 7, none⟩), .agg (orC p2).toArray, .slice (some ⟨b, off, none⟩) n c3, .int .i64 k, .slice (some ⟨b, off, none⟩) n c3, .int .i64 (n : Int), .int .i64 ((n : Int) - 1), .int .i64 (n3 : Int), .pointer (some ⟨b, off + n3 * 7, none⟩), .agg (orC p3).toArray, undef, undef, undef, undef, undef, undef, undef, undef, undef, undef, undef, undef, undef, undef, undef, undef, undef, undef, undef, undef, undef, undef, undef, undef, undef, undef, undef, undef, undef, undef, undef, undef, undef, undef, undef, undef, undef, undef], defers := [] } wk) (wk : World) (hk : (fun W : World => Below w3.heap.size w3 W) wk) (ga : Nat) (hga : NV 53 7 w3.heap.size ga wk) :
    wpAnyH Try.prog .any hbNR Q (fun W : World => Below w3.heap.size w3 W) 11 #[true, true, true, true, true, true, true, true, true, true, true, true, true, false, false, false, true, true, true, true, true, false, false, false, true, false, false, false, false, false] { tmps := #[.slice a2 m2 c2, .int .i64 i, .int .i64 j, .int .i64 k, undef, undef, undef, undef, .bool false, .slice (some ⟨b, off, none⟩) n c3, .int .i64 0, .pointer (some ⟨ga, 0, none⟩), undef, undef, undef, undef, undef, .slice a0 len0 cap0, .slice a2 m2 c2, .tuple #[.slice (some ⟨b, off, none⟩) n c3, .int .i64 0], .slice a2 m2 c2, .tuple #[.slice (some ⟨b, off, none⟩) n c3, .int .i64 0], .slice (some ⟨b, off, none⟩) n c3, .int .i64 0, .int .i64 0, .bool false, .bool false, .slice (some ⟨b, off, none⟩) n c3, .int .i64 (n : Int), .bool false, .bool false, undef, .slice (some ⟨b, off, none⟩) n c3, .int .i64 i, .slice (some ⟨b, off, none⟩) n c3, .int .i64 (n : Int), .int .i64 ((n : Int) - 1), .int .i64 (n1 : Int), .pointer (some ⟨b, off + n1 * 7, none⟩), .agg (orC p1).toArray, .slice (some ⟨b, off, none⟩) n c3, .int .i64 j, .slice (some ⟨b, off, none⟩) n c3, .int .i64 (n : Int), .int .i64 ((n : Int) - 1), undef, undef, undef, .slice (some ⟨b, off, none⟩) n c3, .int .i64 k, .slice (some ⟨b, off, none⟩) n c3, .int .i64 (n : Int), .int .i64 ((n : Int) - 1), undef, undef, undef, undef, undef, undef, undef, undef, undef, undef, undef, undef, undef, undef, undef, undef, undef, undef, undef, undef, undef, undef, undef, undef, undef, undef, undef, undef, undef, undef, undef, undef, undef, undef, undef, undef, undef, undef, undef, undef, undef], defers := [] } wk := by
  refine wpAnyH_ready (rs := [13, 25, 26]) (by decide +kernel) (by simp) ?_
  refine (AllReadyH.cons (o := hbNO13) rfl (fun K hK => ?_) (AllReadyH.cons (o := hbNO25) rfl (fun K hK => ?_) (AllReadyH.cons (o := hbNO26) rfl (fun K hK => ?_) AllReadyH.nil)))
  · go_simp
    refine (hb_least j n n2 e2 wk).mono ?_
    rintro e1 w1 ⟨rfl, hw1⟩
    subst hw1
    refine hK.out _ _ hk (fun _ => ?_)
    clear hK K
    try simp only [List.setIfInBounds_toArray, List.set_cons_zero, List.set_cons_succ]
    refine wpAnyH_take (i := 14) (oi := hbNO14) (v := .pointer (some ⟨b, off + n2 * 7, none⟩)) rfl (by kernel_rfl) (by kernel_rfl) (by kernel_rfl) (hP _ _) (Or.inl ⟨by rfl, ?y11⟩) hk ?r11
    case y11 => (intro w hSw; clear hSw; go_simp; first | done | with_reducible rfl)
    simp only [Act.put, List.setIfInBounds_toArray, List.set_cons_zero, List.set_cons_succ]
    refine wpAnyH_take (i := 15) (oi := hbNO15) (v := .agg (orC p2).toArray) rfl (by kernel_rfl) (by kernel_rfl) (by kernel_rfl) (hP _ _) (yieldsIf_load_mid (by rfl) 53 (.tmp 46) rfl b (off + n2 * 7) rfl _ _ (fun W h => nv_range r2 h hbl) Try.underlying53 rfl op_info) hk ?_
    simp only [Act.put, List.setIfInBounds_toArray, List.set_cons_zero, List.set_cons_succ]
    exact hbN14 w3 a2 m2 c2 i j k b off n c3 a0 len0 cap0 p1 p2 p3 n1 n2 n3 h1 h2 h3 hn hbl r1 r2 r3 e1 e2 e3 hw hP hQ _ hk ga hga
  · rw [if_pos (by rfl)]
    refine wp_alloc_of 53 7 rfl op_zero ?_
    intro cs hcs
    have hgb := NV.new (T := 53) (N0 := w3.heap.size) (wr := wk) hk.size hcs
    have hbA : Below wk.heap.size wk (wk.alloc (.cells cs 53)) := (Below.refl _ _).alloc (Nat.le_refl _) _
    have ngagb := Nat.ne_of_lt hga.lt
    replace hk := bstep hk hbA
    replace hga := hga.step hbA
    clear hbA hcs
    generalize wk.heap.size = gb at hgb ngagb ⊢
    generalize wk.alloc (.cells cs 53) = wk at hgb hga hk ⊢
    refine hK.out _ _ hk (fun _ => ?_)
    clear hK K
    try simp only [Act.put, List.setIfInBounds_toArray, List.set_cons_zero, List.set_cons_succ]
    exact hbN20 w3 a2 m2 c2 i j k b off n c3 a0 len0 cap0 p1 p2 p3 n1 n2 n3 h1 h2 h3 hn hbl r1 r2 r3 e1 e2 e3 hw hP hQ _ hk ga hga gb hgb ngagb
  · rw [if_pos (by rfl)]
    refine wp_alloc_of 53 7 rfl op_zero ?_
    intro cs hcs
    have hgc := NV.new (T := 53) (N0 := w3.heap.size) (wr := wk) hk.size hcs
    have hbA : Below wk.heap.size wk (wk.alloc (.cells cs 53)) := (Below.refl _ _).alloc (Nat.le_refl _) _
    have ngagc := Nat.ne_of_lt hga.lt
    replace hk := bstep hk hbA
    replace hga := hga.step hbA
    clear hbA hcs
    generalize wk.heap.size = gc at hgc ngagc ⊢
    generalize wk.alloc (.cells cs 53) = wk at hgc hga hk ⊢
    refine hK.out _ _ hk (fun _ => ?_)
    clear hK K
    try simp only [Act.put, List.setIfInBounds_toArray, List.set_cons_zero, List.set_cons_succ]
    exact hbN21 w3 a2 m2 c2 i j k b off n c3 a0 len0 cap0 p1 p2 p3 n1 n2 n3 h1 h2 h3 hn hbl r1 r2 r3 e1 e2 e3 hw hP hQ _ hk ga hga gc hgc ngagc
set_option maxRecDepth 100000 in
set_option maxHeartbeats 1000000 in
theorem hbN23 (w3 : World) (a2 : Option Addr) (m2 c2 : Nat) (i j k : Int) (b off n c3 : Nat) (a0 : Option Addr) (len0 cap0 : Nat) (p1 p2 p3 : Opr) (n1 n2 n3 : Nat) (h1 : n1 < n) (h2 : n2 < n) (h3 : n3 < n) (hn : n ≤ 64) (hbl : b < w3.heap.size) (r1 : w3.rangeAt b (off + n1 * 7) (orC p1)) (r2 : w3.rangeAt b (off + n2 * 7) (orC p2)) (r3 : w3.rangeAt b (off + n3 * 7) (orC p3)) (e1 : leastV i 0 ((n : Int) - 1) = n1) (e2 : leastV j 0 ((n : Int) - 1) = n2) (e3 : leastV k 0 ((n : Int) - 1) = n3) (hw : IntKind.i64.wrap ((n : Int) - 1) = (n : Int) - 1) {Q : Exit → Act → World → Prop} (hP : ∀ (d : Option Tmp) (v : Value) (c : List PanicEntry) (a : Act) (w : World), Q (.panic c) (a.put d v) w → Q (.panic c) a w) (hQ : ∀ (wk : World) (hk : (fun W : World => Below w3.heap.size w3 W) wk) (ga : Nat) (hga : wk.heap[ga]? = some (.cells (orC p1).toArray 53 (0, 0))) (qga : w3.heap.size ≤ ga) (gb : Nat) (hgb : wk.heap[gb]? = some (.cells (orC p2).toArray 53 (0, 0))) (qgb : w3.heap.size ≤ gb) (gc : Nat) (hgc : wk.heap[gc]? = some (.cells (orC p3).toArray 53 (0, 0))) (qgc : w3.heap.size ≤ gc) (ngagb : ga ≠ gb) (ngagc : ga ≠ gc) (ngbgc : gb ≠ gc), Q .normal { tmps := #[.slice a2 m2 c2, .int .i64 i, .int .i64 j, .int .i64 k, undef, undef, undef, undef, .bool false, .slice (some ⟨b, off, none⟩) n c3, .int .i64 0, .pointer (some ⟨ga, 0, none⟩), .pointer (some ⟨gb, 0, none⟩), .pointer (some ⟨gc, 0, none⟩), undef, undef, undef, .slice a0 len0 cap0, .slice a2 m2 c2, .tuple #[.slice (some ⟨b, off, none⟩) n c3, .int .i64 0], .slice a2 m2 c2, .tuple #[.slice (some ⟨b, off, none⟩) n c3, .int .i64 0], .slice (some ⟨b, off, none⟩) n c3, .int .i64 0, .int .i64 0, .bool false, .bool false, .slice (some ⟨b, off, none⟩) n c3, .int .i64 (n : Int), .bool false, .bool false, undef, .slice (some ⟨b, off, none⟩) n c3, .int .i64 i, .slice (some ⟨b, off, none⟩) n c3, .int .i64 (n : Int), .int .i64 ((n : Int) - 1), .int .i64 (n1 : Int), .pointer (some ⟨b, off + n1 * 7, none⟩), .agg (orC p1).toArray, .slice (some ⟨b, off, none⟩) n c3, .int .i64 j, .slice (some ⟨b, off, none⟩) n c3, .int .i64 (n : Int), .int .i64 ((n : Int) - 1), .int .i64 (n2 : Int), .pointer (some ⟨b, off + n2 * 7, none⟩), .agg (orC p2).toArray, .slice (some ⟨b, off, none⟩) n c3, .int .i64 k, .slice (some ⟨b, off, none⟩) n c3, .int .i64 (n : Int), .int .i64 ((n : Int) - 1), .int .i64 (n3 : Int), .pointer (some ⟨b, off + n3 * 7, none⟩), .agg (orC p3).toArray, undef, undef, undef, undef, undef, undef, undef, undef, undef, undef, undef, undef, undef, undef, undef, undef, undef, undef, undef, undef, undef, undef, undef, undef, undef, undef, undef, undef, undef, undef, undef, undef, undef, undef, undef, undef, undef, undef], defers := [] } wk) (wk : World) (hk : (fun W : World => Below w3.heap.size w3 W) wk) (gb : Nat) (hgb : NV 53 7 w3.heap.size gb wk) (gc : Nat) (hgc : NV 53 7 w3.heap.size gc wk) (ngbgc : gb ≠ gc) :
    wpAnyH Try.prog .any hbNR Q (fun W : World => Below w3.heap.size w3 W) 10 #[true, true, true, true, true, true, true, true, true, true, true, true, true, false, false, false, true, true, true, true, true, false, false, false, false, true, true, false, false, false] { tmps := #[.slice a2 m2 c2, .int .i64 i, .int .i64 j, .int .i64 k, undef, undef, undef, undef, .bool false, .slice (some ⟨b, off, none⟩) n c3, .int .i64 0, undef, .pointer (some ⟨gb, 0, none⟩), .pointer (some ⟨gc, 0, none⟩), undef, undef, undef, .slice a0 len0 cap0, .slice a2 m2 c2, .tuple #[.slice (some ⟨b, off, none⟩) n c3, .int .i64 0], .slice a2 m2 c2, .tuple #[.slice (some ⟨b, off, none⟩) n c3, .int .i64 0], .slice (some ⟨b, off, none⟩) n c3, .int .i64 0, .int .i64 0, .bool false, .bool false, .slice (some ⟨b, off, none⟩) n c3, .int .i64 (n : Int), .bool false, .bool false, undef, .slice (some ⟨b, off, none⟩) n c3, .int .i64 i, .slice (some ⟨b, off, none⟩) n c3, .int .i64 (n : Int), .int .i64 ((n : Int) - 1), .int .i64 (n1 : Int), .pointer (some ⟨b, off + n1 * 7, none⟩), .agg (orC p1).toArray, .slice (some ⟨b, off, none⟩) n c3, .int .i64 j, .slice (some ⟨b, off, none⟩) n c3, .int .i64 (n : Int), .int .i64 ((n : Int) - 1), undef, undef, undef, .slice (some ⟨b, off, none⟩) n c3, .int .i64 k, .slice (some ⟨b, off, none⟩) n c3, .int .i64 (n : Int), .int .i64 ((n : Int) - 1), undef, undef, undef, undef, undef, undef, undef, undef, undef, undef, undef, undef, undef, undef, undef, undef, undef, undef, undef, undef, undef, undef, undef, undef, undef, undef, undef, undef, undef, undef, undef, undef, undef, undef, undef, undef, undef, undef, undef, undef, undef], defers := [] } wk := by
  refine wpAnyH_ready (rs := [13, 24]) (by decide +kernel) (by simp) ?_
  refine (AllReadyH.cons (o := hbNO13) rfl (fun K hK => ?_) (AllReadyH.cons (o := hbNO24) rfl (fun K hK => ?_) AllReadyH.nil))
  · go_simp
    refine (hb_least j n n2 e2 wk).mono ?_
    rintro e1 w1 ⟨rfl, hw1⟩
    subst hw1
    refine hK.out _ _ hk (fun _ => ?_)
    clear hK K
    try simp only [List.setIfInBounds_toArray, List.set_cons_zero, List.set_cons_succ]
    refine wpAnyH_take (i := 14) (oi := hbNO14) (v := .pointer (some ⟨b, off + n2 * 7, none⟩)) rfl (by kernel_rfl) (by kernel_rfl) (by kernel_rfl) (hP _ _) (Or.inl ⟨by rfl, ?y12⟩) hk ?r12
    case y12 => (intro w hSw; clear hSw; go_simp; first | done | with_reducible rfl)
    simp only [Act.put, List.setIfInBounds_toArray, List.set_cons_zero, List.set_cons_succ]
    refine wpAnyH_take (i := 15) (oi := hbNO15) (v := .agg (orC p2).toArray) rfl (by kernel_rfl) (by kernel_rfl) (by kernel_rfl) (hP _ _) (yieldsIf_load_mid (by rfl) 53 (.tmp 46) rfl b (off + n2 * 7) rfl _ _ (fun W h => nv_range r2 h hbl) Try.underlying53 rfl op_info) hk ?_
    simp only [Act.put, List.setIfInBounds_toArray, List.set_cons_zero, List.set_cons_succ]
    exact hbN15 w3 a2 m2 c2 i j k b off n c3 a0 len0 cap0 p1 p2 p3 n1 n2 n3 h1 h2 h3 hn hbl r1 r2 r3 e1 e2 e3 hw hP hQ _ hk gb hgb gc hgc ngbgc
  · rw [if_pos (by rfl)]
    refine wp_alloc_of 53 7 rfl op_zero ?_
    intro cs hcs
    have hga := NV.new (T := 53) (N0 := w3.heap.size) (wr := wk) hk.size hcs
    have hbA : Below wk.heap.size wk (wk.alloc (.cells cs 53)) := (Below.refl _ _).alloc (Nat.le_refl _) _
    have ngagb := Nat.ne_of_gt hgb.lt
    have ngagc := Nat.ne_of_gt hgc.lt
    replace hk := bstep hk hbA
    replace hgb := hgb.step hbA
    replace hgc := hgc.step hbA
    clear hbA hcs
    generalize wk.heap.size = ga at hga ngagb ngagc ⊢
    generalize wk.alloc (.cells cs 53) = wk at hga hgb hgc hk ⊢
    refine hK.out _ _ hk (fun _ => ?_)
    clear hK K
    try simp only [Act.put, List.setIfInBounds_toArray, List.set_cons_zero, List.set_cons_succ]
    exact hbN19 w3 a2 m2 c2 i j k b off n c3 a0 len0 cap0 p1 p2 p3 n1 n2 n3 h1 h2 h3 hn hbl r1 r2 r3 e1 e2 e3 hw hP hQ _ hk ga hga gb hgb gc hgc ngagb ngagc ngbgc
set_option maxRecDepth 100000 in
set_option maxHeartbeats 1000000 in
theorem hbN24 (w3 : World) (a2 : Option Addr) (m2 c2 : Nat) (i j k : Int) (b off n c3 : Nat) (a0 : Option Addr) (len0 cap0 : Nat) (p1 p2 p3 : Opr) (n1 n2 n3 : Nat) (h1 : n1 < n) (h2 : n2 < n) (h3 : n3 < n) (hn : n ≤ 64) (hbl : b < w3.heap.size) (r1 : w3.rangeAt b (off + n1 * 7) (orC p1)) (r2 : w3.rangeAt b (off + n2 * 7) (orC p2)) (r3 : w3.rangeAt b (off + n3 * 7) (orC p3)) (e1 : leastV i 0 ((n : Int) - 1) = n1) (e2 : leastV j 0 ((n : Int) - 1) = n2) (e3 : leastV k 0 ((n : Int) - 1) = n3) (hw : IntKind.i64.wrap ((n : Int) - 1) = (n : Int) - 1) {Q : Exit → Act → World → Prop} (hP : ∀ (d : Option Tmp) (v : Value) (c : List PanicEntry) (a : Act) (w : World), Q (.panic c) (a.put d v) w → Q (.panic c) a w) (hQ : ∀ (wk : World) (hk : (fun W : World => Below w3.heap.size w3 W) wk) (ga : Nat) (hga : wk.heap[ga]? = some (.cells (orC p1).toArray 53 (0, 0))) (qga : w3.heap.size ≤ ga) (gb : Nat) (hgb : wk.heap[gb]? = some (.cells (orC p2).toArray 53 (0, 0))) (qgb : w3.heap.size ≤ gb) (gc : Nat) (hgc : wk.heap[gc]? = some (.cells (orC p3).toArray 53 (0, 0))) (qgc : w3.heap.size ≤ gc) (ngagb : ga ≠ gb) (ngagc : ga ≠ gc) (ngbgc : gb ≠ gc), Q .normal { tmps := #[.slice a2 m2 c2, .int .i64 i, .int .i64 j, .int .i64 k, undef, undef, undef, undef, .bool false, .slice (some ⟨b, off, none⟩) n c3, .int .i64 0, .pointer (some ⟨ga, 0, none⟩), .pointer (some ⟨gb, 0, none⟩), .pointer (some ⟨gc, 0, none⟩), undef, undef, undef, .slice a0 len0 cap0, .slice a2 m2 c2, .tuple #[.slice (some ⟨b, off, none⟩) n c3, .int .i64 0], .slice a2 m2 c2, .tuple #[.slice (some ⟨b, off, none⟩) n c3, .int .i64 0], .slice (some ⟨b, off, none⟩) n c3, .int .i64 0, .int .i64 0, .bool false, .bool false, .slice (some ⟨b, off, none⟩) n c3, .int .i64 (n : Int), .bool false, .bool false, undef, .slice (some ⟨b, off, none⟩) n c3, .int .i64 i, .slice (some ⟨b, off, none⟩) n c3, .int .i64 (n : Int), .int .i64 ((n : Int) - 1), .int .i64 (n1 : Int), .pointer (some ⟨b, off + n1 * 7, none⟩), .agg (orC p1).toArray, .slice (some ⟨b, off, none⟩) n c3, .int .i64 j, .slice (some ⟨b, off, none⟩) n c3, .int .i64 (n : Int), .int .i64 ((n : Int) - 1), .int .i64 (n2 : Int), .pointer (some ⟨b, off + n2 * 7, none⟩), .agg (orC p2).toArray, .slice (some ⟨b, off, none⟩) n c3, .int .i64 k, .slice (some ⟨b, off, none⟩) n c3, .int .i64 (n : Int), .int .i64 ((n : Int) - 1), .int .i64 (n3 : Int), .pointer (some ⟨b, off + n3 * 7, none⟩), .agg (orC p3).toArray, undef, undef, undef, undef, undef, undef, undef, undef, undef, undef, undef, undef, undef, undef, undef, undef, undef, undef, undef, undef, undef, undef, undef, undef, undef, undef, undef, undef, undef, undef, undef, undef, undef, undef, undef, undef, undef, undef], defers := [] } wk) (wk : World) (hk : (fun W : World => Below w3.heap.size w3 W) wk) (gb : Nat) (hgb : NV 53 7 w3.heap.size gb wk) :
    wpAnyH Try.prog .any hbNR Q (fun W : World => Below w3.heap.size w3 W) 11 #[true, true, true, true, true, true, true, true, true, true, true, true, true, false, false, false, true, true, true, true, true, false, false, false, false, true, false, false, false, false] { tmps := #[.slice a2 m2 c2, .int .i64 i, .int .i64 j, .int .i64 k, undef, undef, undef, undef, .bool false, .slice (some ⟨b, off, none⟩) n c3, .int .i64 0, undef, .pointer (some ⟨gb, 0, none⟩), undef, undef, undef, undef, .slice a0 len0 cap0, .slice a2 m2 c2, .tuple #[.slice (some ⟨b, off, none⟩) n c3, .int .i64 0], .slice a2 m2 c2, .tuple #[.slice (some ⟨b, off, none⟩) n c3, .int .i64 0], .slice (some ⟨b, off, none⟩) n c3, .int .i64 0, .int .i64 0, .bool false, .bool false, .slice (some ⟨b, off, none⟩) n c3, .int .i64 (n : Int), .bool false, .bool false, undef, .slice (some ⟨b, off, none⟩) n c3, .int .i64 i, .slice (some ⟨b, off, none⟩) n c3, .int .i64 (n : Int), .int .i64 ((n : Int) - 1), .int .i64 (n1 : Int), .pointer (some ⟨b, off + n1 * 7, none⟩), .agg (orC p1).toArray, .slice (some ⟨b, off, none⟩) n c3, .int .i64 j, .slice (some ⟨b, off, none⟩) n c3, .int .i64 (n : Int), .int .i64 ((n : Int) - 1), undef, undef, undef, .slice (some ⟨b, off, none⟩) n c3, .int .i64 k, .slice (some ⟨b, off, none⟩) n c3, .int .i64 (n : Int), .int .i64 ((n : Int) - 1), undef, undef, undef, undef, undef, undef, undef, undef, undef, undef, undef, undef, undef, undef, undef, undef, undef, undef, undef, undef, undef, undef, undef, undef, undef, undef, undef, undef, undef, undef, undef, undef, undef, undef, undef, undef, undef, undef, undef, undef, undef], defers := [] } wk := by
  refine wpAnyH_ready (rs := [13, 24, 26]) (by decide +kernel) (by simp) ?_
  refine (AllReadyH.cons (o := hbNO13) rfl (fun K hK => ?_) (AllReadyH.cons (o := hbNO24) rfl (fun K hK => ?_) (AllReadyH.cons (o := hbNO26) rfl (fun K hK => ?_) AllReadyH.nil)))
  · go_simp
    refine (hb_least j n n2 e2 wk).mono ?_
    rintro e1 w1 ⟨rfl, hw1⟩
    subst hw1
    refine hK.out _ _ hk (fun _ => ?_)
    clear hK K
    try simp only [List.setIfInBounds_toArray, List.set_cons_zero, List.set_cons_succ]
    refine wpAnyH_take (i := 14) (oi := hbNO14) (v := .pointer (some ⟨b, off + n2 * 7, none⟩)) rfl (by kernel_rfl) (by kernel_rfl) (by kernel_rfl) (hP _ _) (Or.inl ⟨by rfl, ?y13⟩) hk ?r13
    case y13 => (intro w hSw; clear hSw; go_simp; first | done | with_reducible rfl)
    simp only [Act.put, List.setIfInBounds_toArray, List.set_cons_zero, List.set_cons_succ]
    refine wpAnyH_take (i := 15) (oi := hbNO15) (v := .agg (orC p2).toArray) rfl (by kernel_rfl) (by kernel_rfl) (by kernel_rfl) (hP _ _) (yieldsIf_load_mid (by rfl) 53 (.tmp 46) rfl b (off + n2 * 7) rfl _ _ (fun W h => nv_range r2 h hbl) Try.underlying53 rfl op_info) hk ?_
    simp only [Act.put, List.setIfInBounds_toArray, List.set_cons_zero, List.set_cons_succ]
    exact hbN16 w3 a2 m2 c2 i j k b off n c3 a0 len0 cap0 p1 p2 p3 n1 n2 n3 h1 h2 h3 hn hbl r1 r2 r3 e1 e2 e3 hw hP hQ _ hk gb hgb
  · rw [if_pos (by rfl)]
    refine wp_alloc_of 53 7 rfl op_zero ?_
    intro cs hcs
    have hga := NV.new (T := 53) (N0 := w3.heap.size) (wr := wk) hk.size hcs
    have hbA : Below wk.heap.size wk (wk.alloc (.cells cs 53)) := (Below.refl _ _).alloc (Nat.le_refl _) _
    have ngagb := Nat.ne_of_gt hgb.lt
    replace hk := bstep hk hbA
    replace hgb := hgb.step hbA
    clear hbA hcs
    generalize wk.heap.size = ga at hga ngagb ⊢
    generalize wk.alloc (.cells cs 53) = wk at hga hgb hk ⊢
    refine hK.out _ _ hk (fun _ => ?_)
    clear hK K
    try simp only [Act.put, List.setIfInBounds_toArray, List.set_cons_zero, List.set_cons_succ]
    exact hbN20 w3 a2 m2 c2 i j k b off n c3 a0 len0 cap0 p1 p2 p3 n1 n2 n3 h1 h2 h3 hn hbl r1 r2 r3 e1 e2 e3 hw hP hQ _ hk ga hga gb hgb ngagb
  · rw [if_pos (by rfl)]
    refine wp_alloc_of 53 7 rfl op_zero ?_
    intro cs hcs
    have hgc := NV.new (T := 53) (N0 := w3.heap.size) (wr := wk) hk.size hcs
    have hbA : Below wk.heap.size wk (wk.alloc (.cells cs 53)) := (Below.refl _ _).alloc (Nat.le_refl _) _
    have ngbgc := Nat.ne_of_lt hgb.lt
    replace hk := bstep hk hbA
    replace hgb := hgb.step hbA
    clear hbA hcs
    generalize wk.heap.size = gc at hgc ngbgc ⊢
    generalize wk.alloc (.cells cs 53) = wk at hgc hgb hk ⊢
    refine hK.out _ _ hk (fun _ => ?_)
    clear hK K
    try simp only [Act.put, List.setIfInBounds_toArray, List.set_cons_zero, List.set_cons_succ]
    exact hbN23 w3 a2 m2 c2 i j k b off n c3 a0 len0 cap0 p1 p2 p3 n1 n2 n3 h1 h2 h3 hn hbl r1 r2 r3 e1 e2 e3 hw hP hQ _ hk gb hgb gc hgc ngbgc
set_option maxRecDepth 100000 in
set_option maxHeartbeats 1000000 in
theorem hbN25 (w3 : World) (a2 : Option Addr) (m2 c2 : Nat) (i j k : Int) (b off n c3 : Nat) (a0 : Option Addr) (len0 cap0 : Nat) (p1 p2 p3 : Opr) (n1 n2 n3 : Nat) (h1 : n1 < n) (h2 : n2 < n) (h3 : n3 < n) (hn : n ≤ 64) (hbl : b < w3.heap.size) (r1 : w3.rangeAt b (off + n1 * 7) (orC p1)) (r2 : w3.rangeAt b (off + n2 * 7) (orC p2)) (r3 : w3.rangeAt b (off + n3 * 7) (orC p3)) (e1 : leastV i 0 ((n : Int) - 1) = n1) (e2 : leastV j 0 ((n : Int) - 1) = n2) (e3 : leastV k 0 ((n : Int) - 1) = n3) (hw : IntKind.i64.wrap ((n : Int) - 1) = (n : Int) - 1) {Q : Exit → Act → World → Prop} (hP : ∀ (d : Option Tmp) (v : Value) (c : List PanicEntry) (a : Act) (w : World), Q (.panic c) (a.put d v) w → Q (.panic c) a w) (hQ : ∀ (wk : World) (hk : (fun W : World => Below w3.heap.size w3 W) wk) (ga : Nat) (hga : wk.heap[ga]? = some (.cells (orC p1).toArray 53 (0, 0))) (qga : w3.heap.size ≤ ga) (gb : Nat) (hgb : wk.heap[gb]? = some (.cells (orC p2).toArray 53 (0, 0))) (qgb : w3.heap.size ≤ gb) (gc : Nat) (hgc : wk.heap[gc]? = some (.cells (orC p3).toArray 53 (0, 0))) (qgc : w3.heap.size ≤ gc) (ngagb : ga ≠ gb) (ngagc : ga ≠ gc) (ngbgc : gb ≠ gc), Q .normal { tmps := #[.slice a2 m2 c2, .int .i64 i, .int .i64 j, .int .i64 k, undef, undef, undef, undef, .bool false, .slice (some ⟨b, off, none⟩) n c3, .int .i64 0, .pointer (some ⟨ga, 0, none⟩), .pointer (some ⟨gb, 0, none⟩), .pointer (some ⟨gc, 0, none⟩), undef, undef, undef, .slice a0 len0 cap0, .slice a2 m2 c2, .tuple #[.slice (some ⟨b, off, none⟩) n c3, .int .i64 0], .slice a2 m2 c2, .tuple #[.slice (some ⟨b, off, none⟩) n c3, .int .i64 0], .slice (some ⟨b, off, none⟩) n c3, .int .i64 0, .int .i64 0, .bool false, .bool false, .slice (some ⟨b, off, none⟩) n c3, .int .i64 (n : Int), .bool false, .bool false, undef, .slice (some ⟨b, off, none⟩) n c3, .int .i64 i, .slice (some ⟨b, off, none⟩) n c3, .int .i64 (n : Int), .int .i64 ((n : Int) - 1), .int .i64 (n1 : Int), .pointer (some ⟨b, off + n1 * 7, none⟩), .agg (orC p1).toArray, .slice (some ⟨b, off, none⟩) n c3, .int .i64 j, .slice (some ⟨b, off, none⟩) n c3, .int .i64 (n : Int), .int .i64 ((n : Int) - 1), .int .i64 (n2 : Int), .pointer (some ⟨b, off + n2 * 7, none⟩), .agg (orC p2).toArray, .slice (some ⟨b, off, none⟩) n c3, .int .i64 k, .slice (some ⟨b, off, none⟩) n c3, .int .i64 (n : Int), .int .i64 ((n : Int) - 1), .int .i64 (n3 : Int), .pointer (some ⟨b, off + n3 * 7, none⟩), .agg (orC p3).toArray, undef, undef, undef, undef, undef, undef, undef, undef, undef, undef, undef, undef, undef, undef, undef, undef, undef, undef, undef, undef, undef, undef, undef, undef, undef, undef, undef, undef, undef, undef, undef, undef, undef, undef, undef, undef, undef, undef], defers := [] } wk) (wk : World) (hk : (fun W : World => Below w3.heap.size w3 W) wk) (gc : Nat) (hgc : NV 53 7 w3.heap.size gc wk) :
    wpAnyH Try.prog .any hbNR Q (fun W : World => Below w3.heap.size w3 W) 11 #[true, true, true, true, true, true, true, true, true, true, true, true, true, false, false, false, true, true, true, true, true, false, false, false, false, false, true, false, false, false] { tmps := #[.slice a2 m2 c2, .int .i64 i, .int .i64 j, .int .i64 k, undef, undef, undef, undef, .bool false, .slice (some ⟨b, off, none⟩) n c3, .int .i64 0, undef, undef, .pointer (some ⟨gc, 0, none⟩), undef, undef, undef, .slice a0 len0 cap0, .slice a2 m2 c2, .tuple #[.slice (some ⟨b, off, none⟩) n c3, .int .i64 0], .slice a2 m2 c2, .tuple #[.slice (some ⟨b, off, none⟩) n c3, .int .i64 0], .slice (some ⟨b, off, none⟩) n c3, .int .i64 0, .int .i64 0, .bool false, .bool false, .slice (some ⟨b, off, none⟩) n c3, .int .i64 (n : Int), .bool false, .bool false, undef, .slice (some ⟨b, off, none⟩) n c3, .int .i64 i, .slice (some ⟨b, off, none⟩) n c3, .int .i64 (n : Int), .int .i64 ((n : Int) - 1), .int .i64 (n1 : Int), .pointer (some ⟨b, off + n1 * 7, none⟩), .agg (orC p1).toArray, .slice (some ⟨b, off, none⟩) n c3, .int .i64 j, .slice (some ⟨b, off, none⟩) n c3, .int .i64 (n : Int), .int .i64 ((n : Int) - 1), undef, undef, undef, .slice (some ⟨b, off, none⟩) n c3, .int .i64 k, .slice (some ⟨b, off, none⟩) n c3, .int .i64 (n : Int), .int .i64 ((n : Int) - 1), undef, undef, undef, undef, undef, undef, undef, undef, undef, undef, undef, undef, undef, undef, undef, undef, undef, undef, undef, undef, undef, undef, undef, undef, undef, undef, undef, undef, undef, undef, undef, undef, undef, undef, undef, undef, undef, undef, undef, undef, undef], defers := [] } wk := by
  refine wpAnyH_ready (rs := [13, 24, 25]) (by decide +kernel) (by simp) ?_
  refine (AllReadyH.cons (o := hbNO13) rfl (fun K hK => ?_) (AllReadyH.cons (o := hbNO24) rfl (fun K hK => ?_) (AllReadyH.cons (o := hbNO25) rfl (fun K hK => ?_) AllReadyH.nil)))
  · go_simp
    refine (hb_least j n n2 e2 wk).mono ?_
    rintro e1 w1 ⟨rfl, hw1⟩
    subst hw1
    refine hK.out _ _ hk (fun _ => ?_)
    clear hK K
    try simp only [List.setIfInBounds_toArray, List.set_cons_zero, List.set_cons_succ]
    refine wpAnyH_take (i := 14) (oi := hbNO14) (v := .pointer (some ⟨b, off + n2 * 7, none⟩)) rfl (by kernel_rfl) (by kernel_rfl) (by kernel_rfl) (hP _ _) (Or.inl ⟨by rfl, ?y14⟩) hk ?r14
    case y14 => (intro w hSw; clear hSw; go_simp; first | done | with_reducible rfl)
    simp only [Act.put, List.setIfInBounds_toArray, List.set_cons_zero, List.set_cons_succ]
    refine wpAnyH_take (i := 15) (oi := hbNO15) (v := .agg (orC p2).toArray) rfl (by kernel_rfl) (by kernel_rfl) (by kernel_rfl) (hP _ _) (yieldsIf_load_mid (by rfl) 53 (.tmp 46) rfl b (off + n2 * 7) rfl _ _ (fun W h => nv_range r2 h hbl) Try.underlying53 rfl op_info) hk ?_
    simp only [Act.put, List.setIfInBounds_toArray, List.set_cons_zero, List.set_cons_succ]
    exact hbN17 w3 a2 m2 c2 i j k b off n c3 a0 len0 cap0 p1 p2 p3 n1 n2 n3 h1 h2 h3 hn hbl r1 r2 r3 e1 e2 e3 hw hP hQ _ hk gc hgc
  · rw [if_pos (by rfl)]
    refine wp_alloc_of 53 7 rfl op_zero ?_
    intro cs hcs
    have hga := NV.new (T := 53) (N0 := w3.heap.size) (wr := wk) hk.size hcs
    have hbA : Below wk.heap.size wk (wk.alloc (.cells cs 53)) := (Below.refl _ _).alloc (Nat.le_refl _) _
    have ngagc := Nat.ne_of_gt hgc.lt
    replace hk := bstep hk hbA
    replace hgc := hgc.step hbA
    clear hbA hcs
    generalize wk.heap.size = ga at hga ngagc ⊢
    generalize wk.alloc (.cells cs 53) = wk at hga hgc hk ⊢
    refine hK.out _ _ hk (fun _ => ?_)
    clear hK K
    try simp only [Act.put, List.setIfInBounds_toArray, List.set_cons_zero, List.set_cons_succ]
    exact hbN21 w3 a2 m2 c2 i j k b off n c3 a0 len0 cap0 p1 p2 p3 n1 n2 n3 h1 h2 h3 hn hbl r1 r2 r3 e1 e2 e3 hw hP hQ _ hk ga hga gc hgc ngagc
  · rw [if_pos (by rfl)]
    refine wp_alloc_of 53 7 rfl op_zero ?_
    intro cs hcs
    have hgb := NV.new (T := 53) (N0 := w3.heap.size) (wr := wk) hk.size hcs
    have hbA : Below wk.heap.size wk (wk.alloc (.cells cs 53)) := (Below.refl _ _).alloc (Nat.le_refl _) _
    have ngbgc := Nat.ne_of_gt hgc.lt
    replace hk := bstep hk hbA
    replace hgc := hgc.step hbA
    clear hbA hcs
    generalize wk.heap.size = gb at hgb ngbgc ⊢
    generalize wk.alloc (.cells cs 53) = wk at hgb hgc hk ⊢
    refine hK.out _ _ hk (fun _ => ?_)
    clear hK K
    try simp only [Act.put, List.setIfInBounds_toArray, List.set_cons_zero, List.set_cons_succ]
    exact hbN23 w3 a2 m2 c2 i j k b off n c3 a0 len0 cap0 p1 p2 p3 n1 n2 n3 h1 h2 h3 hn hbl r1 r2 r3 e1 e2 e3 hw hP hQ _ hk gb hgb gc hgc ngbgc
set_option maxRecDepth 100000 in
set_option maxHeartbeats 1000000 in
theorem hbN26 (w3 : World) (a2 : Option Addr) (m2 c2 : Nat) (i j k : Int) (b off n c3 : Nat) (a0 : Option Addr) (len0 cap0 : Nat) (p1 p2 p3 : Opr) (n1 n2 n3 : Nat) (h1 : n1 < n) (h2 : n2 < n) (h3 : n3 < n) (hn : n ≤ 64) (hbl : b < w3.heap.size) (r1 : w3.rangeAt b (off + n1 * 7) (orC p1)) (r2 : w3.rangeAt b (off + n2 * 7) (orC p2)) (r3 : w3.rangeAt b (off + n3 * 7) (orC p3)) (e1 : leastV i 0 ((n : Int) - 1) = n1) (e2 : leastV j 0 ((n : Int) - 1) = n2) (e3 : leastV k 0 ((n : Int) - 1) = n3) (hw : IntKind.i64.wrap ((n : Int) - 1) = (n : Int) - 1) {Q : Exit → Act → World → Prop} (hP : ∀ (d : Option Tmp) (v : Value) (c : List PanicEntry) (a : Act) (w : World), Q (.panic c) (a.put d v) w → Q (.panic c) a w) (hQ : ∀ (wk : World) (hk : (fun W : World => Below w3.heap.size w3 W) wk) (ga : Nat) (hga : wk.heap[ga]? = some (.cells (orC p1).toArray 53 (0, 0))) (qga : w3.heap.size ≤ ga) (gb : Nat) (hgb : wk.heap[gb]? = some (.cells (orC p2).toArray 53 (0, 0))) (qgb : w3.heap.size ≤ gb) (gc : Nat) (hgc : wk.heap[gc]? = some (.cells (orC p3).toArray 53 (0, 0))) (qgc : w3.heap.size ≤ gc) (ngagb : ga ≠ gb) (ngagc : ga ≠ gc) (ngbgc : gb ≠ gc), Q .normal { tmps := #[.slice a2 m2 c2, .int .i64 i, .int .i64 j, .int .i64 k, undef, undef, undef, undef, .bool false, .slice (some ⟨b, off, none⟩) n c3, .int .i64 0, .pointer (some ⟨ga, 0, none⟩), .pointer (some ⟨gb, 0, none⟩), .pointer (some ⟨gc, 0, none⟩), undef, undef, undef, .slice a0 len0 cap0, .slice a2 m2 c2, .tuple #[.slice (some ⟨b, off, none⟩) n c3, .int .i64 0], .slice a2 m2 c2, .tuple #[.slice (some ⟨b, off, none⟩) n c3, .int .i64 0], .slice (some ⟨b, off, none⟩) n c3, .int .i64 0, .int .i64 0, .bool false, .bool false, .slice (some ⟨b, off, none⟩) n c3, .int .i64 (n : Int), .bool false, .bool false, undef, .slice (some ⟨b, off, none⟩) n c3, .int .i64 i, .slice (some ⟨b, off, none⟩) n c3, .int .i64 (n : Int), .int .i64 ((n : Int) - 1), .int .i64 (n1 : Int), .pointer (some ⟨b, off + n1 * 7, none⟩), .agg (orC p1).toArray, .slice (some ⟨b, off, none⟩) n c3, .int .i64 j, .slice (some ⟨b, off, none⟩) n c3, .int .i64 (n : Int), .int .i64 ((n : Int) - 1), .int .i64 (n2 : Int), .pointer (some ⟨b, off + n2 * 7, none⟩), .agg (orC p2).toArray, .slice (some ⟨b, off, none⟩) n c3, .int .i64 k, .slice (some ⟨b, off, none⟩) n c3, .int .i64 (n : Int), .int .i64 ((n : Int) - 1), .int .i64 (n3 : Int), .pointer (some ⟨b, off + n3 * 7, none⟩), .agg (orC p3).toArray, undef, undef, undef, undef, undef, undef, undef, undef, undef, undef, undef, undef, undef, undef, undef, undef, undef, undef, undef, undef, undef, undef, undef, undef, undef, undef, undef, undef, undef, undef, undef, undef, undef, undef, undef, undef, undef, undef], defers := [] } wk) (wk : World) (hk : (fun W : World => Below w3.heap.size w3 W) wk)  :
    wpAnyH Try.prog .any hbNR Q (fun W : World => Below w3.heap.size w3 W) 12 #[true, true, true, true, true, true, true, true, true, true, true, true, true, false, false, false, true, true, true, true, true, false, false, false, false, false, false, false, false, false] { tmps := #[.slice a2 m2 c2, .int .i64 i, .int .i64 j, .int .i64 k, undef, undef, undef, undef, .bool false, .slice (some ⟨b, off, none⟩) n c3, .int .i64 0, undef, undef, undef, undef, undef, undef, .slice a0 len0 cap0, .slice a2 m2 c2, .tuple #[.slice (some ⟨b, off, none⟩) n c3, .int .i64 0], .slice a2 m2 c2, .tuple #[.slice (some ⟨b, off, none⟩) n c3, .int .i64 0], .slice (some ⟨b, off, none⟩) n c3, .int .i64 0, .int .i64 0, .bool false, .bool false, .slice (some ⟨b, off, none⟩) n c3, .int .i64 (n : Int), .bool false, .bool false, undef, .slice (some ⟨b, off, none⟩) n c3, .int .i64 i, .slice (some ⟨b, off, none⟩) n c3, .int .i64 (n : Int), .int .i64 ((n : Int) - 1), .int .i64 (n1 : Int), .pointer (some ⟨b, off + n1 * 7, none⟩), .agg (orC p1).toArray, .slice (some ⟨b, off, none⟩) n c3, .int .i64 j, .slice (some ⟨b, off, none⟩) n c3, .int .i64 (n : Int), .int .i64 ((n : Int) - 1), undef, undef, undef, .slice (some ⟨b, off, none⟩) n c3, .int .i64 k, .slice (some ⟨b, off, none⟩) n c3, .int .i64 (n : Int), .int .i64 ((n : Int) - 1), undef, undef, undef, undef, undef, undef, undef, undef, undef, undef, undef, undef, undef, undef, undef, undef, undef, undef, undef, undef, undef, undef, undef, undef, undef, undef, undef, undef, undef, undef, undef, undef, undef, undef, undef, undef, undef, undef, undef, undef, undef], defers := [] } wk := by
  refine wpAnyH_ready (rs := [13, 24, 25, 26]) (by decide +kernel) (by simp) ?_
  refine (AllReadyH.cons (o := hbNO13) rfl (fun K hK => ?_) (AllReadyH.cons (o := hbNO24) rfl (fun K hK => ?_) (AllReadyH.cons (o := hbNO25) rfl (fun K hK => ?_) (AllReadyH.cons (o := hbNO26) rfl (fun K hK => ?_) AllReadyH.nil))))
  · go_simp
    refine (hb_least j n n2 e2 wk).mono ?_
    rintro e1 w1 ⟨rfl, hw1⟩
    subst hw1
    refine hK.out _ _ hk (fun _ => ?_)
    clear hK K
    try simp only [List.setIfInBounds_toArray, List.set_cons_zero, List.set_cons_succ]
    refine wpAnyH_take (i := 14) (oi := hbNO14) (v := .pointer (some ⟨b, off + n2 * 7, none⟩)) rfl (by kernel_rfl) (by kernel_rfl) (by kernel_rfl) (hP _ _) (Or.inl ⟨by rfl, ?y15⟩) hk ?r15
    case y15 => (intro w hSw; clear hSw; go_simp; first | done | with_reducible rfl)
    simp only [Act.put, List.setIfInBounds_toArray, List.set_cons_zero, List.set_cons_succ]
    refine wpAnyH_take (i := 15) (oi := hbNO15) (v := .agg (orC p2).toArray) rfl (by kernel_rfl) (by kernel_rfl) (by kernel_rfl) (hP _ _) (yieldsIf_load_mid (by rfl) 53 (.tmp 46) rfl b (off + n2 * 7) rfl _ _ (fun W h => nv_range r2 h hbl) Try.underlying53 rfl op_info) hk ?_
    simp only [Act.put, List.setIfInBounds_toArray, List.set_cons_zero, List.set_cons_succ]
    exact hbN18 w3 a2 m2 c2 i j k b off n c3 a0 len0 cap0 p1 p2 p3 n1 n2 n3 h1 h2 h3 hn hbl r1 r2 r3 e1 e2 e3 hw hP hQ _ hk 
  · rw [if_pos (by rfl)]
    refine wp_alloc_of 53 7 rfl op_zero ?_
    intro cs hcs
    have hga := NV.new (T := 53) (N0 := w3.heap.size) (wr := wk) hk.size hcs
    have hbA : Below wk.heap.size wk (wk.alloc (.cells cs 53)) := (Below.refl _ _).alloc (Nat.le_refl _) _
    replace hk := bstep hk hbA
    clear hbA hcs
    generalize wk.heap.size = ga at hga  ⊢
    generalize wk.alloc (.cells cs 53) = wk at hga  hk ⊢
    refine hK.out _ _ hk (fun _ => ?_)
    clear hK K
    try simp only [Act.put, List.setIfInBounds_toArray, List.set_cons_zero, List.set_cons_succ]
    exact hbN22 w3 a2 m2 c2 i j k b off n c3 a0 len0 cap0 p1 p2 p3 n1 n2 n3 h1 h2 h3 hn hbl r1 r2 r3 e1 e2 e3 hw hP hQ _ hk ga hga
  · rw [if_pos (by rfl)]
    refine wp_alloc_of 53 7 rfl op_zero ?_
    intro cs hcs
    have hgb := NV.new (T := 53) (N0 := w3.heap.size) (wr := wk) hk.size hcs
    have hbA : Below wk.heap.size wk (wk.alloc (.cells cs 53)) := (Below.refl _ _).alloc (Nat.le_refl _) _
    replace hk := bstep hk hbA
    clear hbA hcs
    generalize wk.heap.size = gb at hgb  ⊢
    generalize wk.alloc (.cells cs 53) = wk at hgb  hk ⊢
    refine hK.out _ _ hk (fun _ => ?_)
    clear hK K
    try simp only [Act.put, List.setIfInBounds_toArray, List.set_cons_zero, List.set_cons_succ]
    exact hbN24 w3 a2 m2 c2 i j k b off n c3 a0 len0 cap0 p1 p2 p3 n1 n2 n3 h1 h2 h3 hn hbl r1 r2 r3 e1 e2 e3 hw hP hQ _ hk gb hgb
  · rw [if_pos (by rfl)]
    refine wp_alloc_of 53 7 rfl op_zero ?_
    intro cs hcs
    have hgc := NV.new (T := 53) (N0 := w3.heap.size) (wr := wk) hk.size hcs
    have hbA : Below wk.heap.size wk (wk.alloc (.cells cs 53)) := (Below.refl _ _).alloc (Nat.le_refl _) _
    replace hk := bstep hk hbA
    clear hbA hcs
    generalize wk.heap.size = gc at hgc  ⊢
    generalize wk.alloc (.cells cs 53) = wk at hgc  hk ⊢
    refine hK.out _ _ hk (fun _ => ?_)
    clear hK K
    try simp only [Act.put, List.setIfInBounds_toArray, List.set_cons_zero, List.set_cons_succ]
    exact hbN25 w3 a2 m2 c2 i j k b off n c3 a0 len0 cap0 p1 p2 p3 n1 n2 n3 h1 h2 h3 hn hbl r1 r2 r3 e1 e2 e3 hw hP hQ _ hk gc hgc
set_option maxRecDepth 100000 in
set_option maxHeartbeats 1000000 in
theorem hbN27 (w3 : World) (a2 : Option Addr) (m2 c2 : Nat) (i j k : Int) (b off n c3 : Nat) (a0 : Option Addr) (len0 cap0 : Nat) (p1 p2 p3 : Opr) (n1 n2 n3 : Nat) (h1 : n1 < n) (h2 : n2 < n) (h3 : n3 < n) (hn : n ≤ 64) (hbl : b < w3.heap.size) (r1 : w3.rangeAt b (off + n1 * 7) (orC p1)) (r2 : w3.rangeAt b (off + n2 * 7) (orC p2)) (r3 : w3.rangeAt b (off + n3 * 7) (orC p3)) (e1 : leastV i 0 ((n : Int) - 1) = n1) (e2 : leastV j 0 ((n : Int) - 1) = n2) (e3 : leastV k 0 ((n : Int) - 1) = n3) (hw : IntKind.i64.wrap ((n : Int) - 1) = (n : Int) - 1) {Q : Exit → Act → World → Prop} (hP : ∀ (d : Option Tmp) (v : Value) (c : List PanicEntry) (a : Act) (w : World), Q (.panic c) (a.put d v) w → Q (.panic c) a w) (hQ : ∀ (wk : World) (hk : (fun W : World => Below w3.heap.size w3 W) wk) (ga : Nat) (hga : wk.heap[ga]? = some (.cells (orC p1).toArray 53 (0, 0))) (qga : w3.heap.size ≤ ga) (gb : Nat) (hgb : wk.heap[gb]? = some (.cells (orC p2).toArray 53 (0, 0))) (qgb : w3.heap.size ≤ gb) (gc : Nat) (hgc : wk.heap[gc]? = some (.cells (orC p3).toArray 53 (0, 0))) (qgc : w3.heap.size ≤ gc) (ngagb : ga ≠ gb) (ngagc : ga ≠ gc) (ngbgc : gb ≠ gc), Q .normal { tmps := #[.slice a2 m2 c2, .int .i64 i, .int .i64 j, .int .i64 k, undef, undef, undef, undef, .bool false, .slice (some ⟨b, off, none⟩) n c3, .int .i64 0, .pointer (some ⟨ga, 0, none⟩), .pointer (some ⟨gb, 0, none⟩), .pointer (some ⟨gc, 0, none⟩), undef, undef, undef, .slice a0 len0 cap0, .slice a2 m2 c2, .tuple #[.slice (some ⟨b, off, none⟩) n c3, .int .i64 0], .slice a2 m2 c2, .tuple #[.slice (some ⟨b, off, none⟩) n c3, .int .i64 0], .slice (some ⟨b, off, none⟩) n c3, .int .i64 0, .int .i64 0, .bool false, .bool false, .slice (some ⟨b, off, none⟩) n c3, .int .i64 (n : Int), .bool false, .bool false, undef, .slice (some ⟨b, off, none⟩) n c3, .int .i64 i, .slice (some ⟨b, off, none⟩) n c3, .int .i64 (n : Int), .int .i64 ((n : Int) - 1), .int .i64 (n1 : Int), .pointer (some ⟨b, off + n1 * 7, none⟩), .agg (orC p1).toArray, .slice (some ⟨b, off, none⟩) n c3, .int .i64 j, .slice (some ⟨b, off, none⟩) n c3, .int .i64 (n : Int), .int .i64 ((n : Int) - 1), .int .i64 (n2 : Int), .pointer (some ⟨b, off + n2 * 7, none⟩), .agg (orC p2).toArray, .slice (some ⟨b, off, none⟩) n c3, .int .i64 k, .slice (some ⟨b, off, none⟩) n c3, .int .i64 (n : Int), .int .i64 ((n : Int) - 1), .int .i64 (n3 : Int), .pointer (some ⟨b, off + n3 * 7, none⟩), .agg (orC p3).toArray, undef, undef, undef, undef, undef, undef, undef, undef, undef, undef, undef, undef, undef, undef, undef, undef, undef, undef, undef, undef, undef, undef, undef, undef, undef, undef, undef, undef, undef, undef, undef, undef, undef, undef, undef, undef, undef, undef], defers := [] } wk) (wk : World) (hk : (fun W : World => Below w3.heap.size w3 W) wk) (ga : Nat) (hga : NV 53 7 w3.heap.size ga wk) (gb : Nat) (hgb : NV 53 7 w3.heap.size gb wk) (gc : Nat) (hgc : NV 53 7 w3.heap.size gc wk) (ngagb : ga ≠ gb) (ngagc : ga ≠ gc) (ngbgc : gb ≠ gc) :
    wpAnyH Try.prog .any hbNR Q (fun W : World => Below w3.heap.size w3 W) 12 #[true, true, true, true, true, false, false, false, true, true, true, true, true, false, false, false, true, true, true, true, true, false, false, false, true, true, true, false, false, false] { tmps := #[.slice a2 m2 c2, .int .i64 i, .int .i64 j, .int .i64 k, undef, undef, undef, undef, .bool false, .slice (some ⟨b, off, none⟩) n c3, .int .i64 0, .pointer (some ⟨ga, 0, none⟩), .pointer (some ⟨gb, 0, none⟩), .pointer (some ⟨gc, 0, none⟩), undef, undef, undef, .slice a0 len0 cap0, .slice a2 m2 c2, .tuple #[.slice (some ⟨b, off, none⟩) n c3, .int .i64 0], .slice a2 m2 c2, .tuple #[.slice (some ⟨b, off, none⟩) n c3, .int .i64 0], .slice (some ⟨b, off, none⟩) n c3, .int .i64 0, .int .i64 0, .bool false, .bool false, .slice (some ⟨b, off, none⟩) n c3, .int .i64 (n : Int), .bool false, .bool false, undef, .slice (some ⟨b, off, none⟩) n c3, .int .i64 i, .slice (some ⟨b, off, none⟩) n c3, .int .i64 (n : Int), .int .i64 ((n : Int) - 1), undef, undef, undef, .slice (some ⟨b, off, none⟩) n c3, .int .i64 j, .slice (some ⟨b, off, none⟩) n c3, .int .i64 (n : Int), .int .i64 ((n : Int) - 1), undef, undef, undef, .slice (some ⟨b, off, none⟩) n c3, .int .i64 k, .slice (some ⟨b, off, none⟩) n c3, .int .i64 (n : Int), .int .i64 ((n : Int) - 1), undef, undef, undef, undef, undef, undef, undef, undef, undef, undef, undef, undef, undef, undef, undef, undef, undef, undef, undef, undef, undef, undef, undef, undef, undef, undef, undef, undef, undef, undef, undef, undef, undef, undef, undef, undef, undef, undef, undef, undef, undef], defers := [] } wk := by
  refine wpAnyH_ready (rs := [5]) (by decide +kernel) (by simp) ?_
  refine (AllReadyH.cons (o := hbNO5) rfl (fun K hK => ?_) AllReadyH.nil)
  · go_simp
    refine (hb_least i n n1 e1 wk).mono ?_
    rintro e1 w1 ⟨rfl, hw1⟩
    subst hw1
    refine hK.out _ _ hk (fun _ => ?_)
    clear hK K
    try simp only [List.setIfInBounds_toArray, List.set_cons_zero, List.set_cons_succ]
    refine wpAnyH_take (i := 6) (oi := hbNO6) (v := .pointer (some ⟨b, off + n1 * 7, none⟩)) rfl (by kernel_rfl) (by kernel_rfl) (by kernel_rfl) (hP _ _) (Or.inl ⟨by rfl, ?y16⟩) hk ?r16
    case y16 => (intro w hSw; clear hSw; go_simp; first | done | with_reducible rfl)
    simp only [Act.put, List.setIfInBounds_toArray, List.set_cons_zero, List.set_cons_succ]
    refine wpAnyH_take (i := 7) (oi := hbNO7) (v := .agg (orC p1).toArray) rfl (by kernel_rfl) (by kernel_rfl) (by kernel_rfl) (hP _ _) (yieldsIf_load_mid (by rfl) 53 (.tmp 38) rfl b (off + n1 * 7) rfl _ _ (fun W h => nv_range r1 h hbl) Try.underlying53 rfl op_info) hk ?_
    simp only [Act.put, List.setIfInBounds_toArray, List.set_cons_zero, List.set_cons_succ]
    exact hbN19 w3 a2 m2 c2 i j k b off n c3 a0 len0 cap0 p1 p2 p3 n1 n2 n3 h1 h2 h3 hn hbl r1 r2 r3 e1 e2 e3 hw hP hQ _ hk ga hga gb hgb gc hgc ngagb ngagc ngbgc
set_option maxRecDepth 100000 in
set_option maxHeartbeats 1000000 in
theorem hbN28 (w3 : World) (a2 : Option Addr) (m2 c2 : Nat) (i j k : Int) (b off n c3 : Nat) (a0 : Option Addr) (len0 cap0 : Nat) (p1 p2 p3 : Opr) (n1 n2 n3 : Nat) (h1 : n1 < n) (h2 : n2 < n) (h3 : n3 < n) (hn : n ≤ 64) (hbl : b < w3.heap.size) (r1 : w3.rangeAt b (off + n1 * 7) (orC p1)) (r2 : w3.rangeAt b (off + n2 * 7) (orC p2)) (r3 : w3.rangeAt b (off + n3 * 7) (orC p3)) (e1 : leastV i 0 ((n : Int) - 1) = n1) (e2 : leastV j 0 ((n : Int) - 1) = n2) (e3 : leastV k 0 ((n : Int) - 1) = n3) (hw : IntKind.i64.wrap ((n : Int) - 1) = (n : Int) - 1) {Q : Exit → Act → World → Prop} (hP : ∀ (d : Option Tmp) (v : Value) (c : List PanicEntry) (a : Act) (w : World), Q (.panic c) (a.put d v) w → Q (.panic c) a w) (hQ : ∀ (wk : World) (hk : (fun W : World => Below w3.heap.size w3 W) wk) (ga : Nat) (hga : wk.heap[ga]? = some (.cells (orC p1).toArray 53 (0, 0))) (qga : w3.heap.size ≤ ga) (gb : Nat) (hgb : wk.heap[gb]? = some (.cells (orC p2).toArray 53 (0, 0))) (qgb : w3.heap.size ≤ gb) (gc : Nat) (hgc : wk.heap[gc]? = some (.cells (orC p3).toArray 53 (0, 0))) (qgc : w3.heap.size ≤ gc) (ngagb : ga ≠ gb) (ngagc : ga ≠ gc) (ngbgc : gb ≠ gc), Q .normal { tmps := #[.slice a2 m2 c2, .int .i64 i, .int .i64 j, .int .i64 k, undef, undef, undef, undef, .bool false, .slice (some ⟨b, off, none⟩) n c3, .int .i64 0, .pointer (some ⟨ga, 0, none⟩), .pointer (some ⟨gb, 0, none⟩), .pointer (some ⟨gc, 0, none⟩), undef, undef, undef, .slice a0 len0 cap0, .slice a2 m2 c2, .tuple #[.slice (some ⟨b, off, none⟩) n c3, .int .i64 0], .slice a2 m2 c2, .tuple #[.slice (some ⟨b, off, none⟩) n c3, .int .i64 0], .slice (some ⟨b, off, none⟩) n c3, .int .i64 0, .int .i64 0, .bool false, .bool false, .slice (some ⟨b, off, none⟩) n c3, .int .i64 (n : Int), .bool false, .bool false, undef, .slice (some ⟨b, off, none⟩) n c3, .int .i64 i, .slice (some ⟨b, off, none⟩) n c3, .int .i64 (n : Int), .int .i64 ((n : Int) - 1), .int .i64 (n1 : Int), .pointer (some ⟨b, off + n1 * 7, none⟩), .agg (orC p1).toArray, .slice (some ⟨b, off, none⟩) n c3, .int .i64 j, .slice (some ⟨b, off, none⟩) n c3, .int .i64 (n : Int), .int .i64 ((n : Int) - 1), .int .i64 (n2 : Int), .pointer (some ⟨b, off + n2 * 7, none⟩), .agg (orC p2).toArray, .slice (some ⟨b, off, none⟩) n c3, .int .i64 k, .slice (some ⟨b, off, none⟩) n c3, .int .i64 (n : Int), .int .i64 ((n : Int) - 1), .int .i64 (n3 : Int), .pointer (some ⟨b, off + n3 * 7, none⟩), .agg (orC p3).toArray, undef, undef, undef, undef, undef, undef, undef, undef, undef, undef, undef, undef, undef, undef, undef, undef, undef, undef, undef, undef, undef, undef, undef, undef, undef, undef, undef, undef, undef, undef, undef, undef, undef, undef, undef, undef, undef, undef], defers := [] } wk) (wk : World) (hk : (fun W : World => Below w3.heap.size w3 W) wk) (ga : Nat) (hga : NV 53 7 w3.heap.size ga wk) (gb : Nat) (hgb : NV 53 7 w3.heap.size gb wk) (ngagb : ga ≠ gb) :
    wpAnyH Try.prog .any hbNR Q (fun W : World => Below w3.heap.size w3 W) 13 #[true, true, true, true, true, false, false, false, true, true, true, true, true, false, false, false, true, true, true, true, true, false, false, false, true, true, false, false, false, false] { tmps := #[.slice a2 m2 c2, .int .i64 i, .int .i64 j, .int .i64 k, undef, undef, undef, undef, .bool false, .slice (some ⟨b, off, none⟩) n c3, .int .i64 0, .pointer (some ⟨ga, 0, none⟩), .pointer (some ⟨gb, 0, none⟩), undef, undef, undef, undef, .slice a0 len0 cap0, .slice a2 m2 c2, .tuple #[.slice (some ⟨b, off, none⟩) n c3, .int .i64 0], .slice a2 m2 c2, .tuple #[.slice (some ⟨b, off, none⟩) n c3, .int .i64 0], .slice (some ⟨b, off, none⟩) n c3, .int .i64 0, .int .i64 0, .bool false, .bool false, .slice (some ⟨b, off, none⟩) n c3, .int .i64 (n : Int), .bool false, .bool false, undef, .slice (some ⟨b, off, none⟩) n c3, .int .i64 i, .slice (some ⟨b, off, none⟩) n c3, .int .i64 (n : Int), .int .i64 ((n : Int) - 1), undef, undef, undef, .slice (some ⟨b, off, none⟩) n c3, .int .i64 j, .slice (some ⟨b, off, none⟩) n c3, .int .i64 (n : Int), .int .i64 ((n : Int) - 1), undef, undef, undef, .slice (some ⟨b, off, none⟩) n c3, .int .i64 k, .slice (some ⟨b, off, none⟩) n c3, .int .i64 (n : Int), .int .i64 ((n : Int) - 1), undef, undef, undef, undef, undef, undef, undef, undef, undef, undef, undef, undef, undef, undef, undef, undef, undef, undef, undef, undef, undef, undef, undef, undef, undef, undef, undef, undef, undef, undef, undef, undef, undef, undef, undef, undef, undef, undef, undef, undef, undef], defers := [] } wk := by
  refine wpAnyH_ready (rs := [5, 26]) (by decide +kernel) (by simp) ?_
  refine (AllReadyH.cons (o := hbNO5) rfl (fun K hK => ?_) (AllReadyH.cons (o := hbNO26) rfl (fun K hK => ?_) AllReadyH.nil))
  · go_simp
    refine (hb_least i n n1 e1 wk).mono ?_
    rintro e1 w1 ⟨rfl, hw1⟩
    subst hw1
    refine hK.out _ _ hk (fun _ => ?_)
    clear hK K
    try simp only [List.setIfInBounds_toArray, List.set_cons_zero, List.set_cons_succ]
    refine wpAnyH_take (i := 6) (oi := hbNO6) (v := .pointer (some ⟨b, off + n1 * 7, none⟩)) rfl (by kernel_rfl) (by kernel_rfl) (by kernel_rfl) (hP _ _) (Or.inl ⟨by rfl, ?y17⟩) hk ?r17
    case y17 => (intro w hSw; clear hSw; go_simp; first | done | with_reducible rfl)
    simp only [Act.put, List.setIfInBounds_toArray, List.set_cons_zero, List.set_cons_succ]
    refine wpAnyH_take (i := 7) (oi := hbNO7) (v := .agg (orC p1).toArray) rfl (by kernel_rfl) (by kernel_rfl) (by kernel_rfl) (hP _ _) (yieldsIf_load_mid (by rfl) 53 (.tmp 38) rfl b (off + n1 * 7) rfl _ _ (fun W h => nv_range r1 h hbl) Try.underlying53 rfl op_info) hk ?_
    simp only [Act.put, List.setIfInBounds_toArray, List.set_cons_zero, List.set_cons_succ]
    exact hbN20 w3 a2 m2 c2 i j k b off n c3 a0 len0 cap0 p1 p2 p3 n1 n2 n3 h1 h2 h3 hn hbl r1 r2 r3 e1 e2 e3 hw hP hQ _ hk ga hga gb hgb ngagb
  · rw [if_pos (by rfl)]
    refine wp_alloc_of 53 7 rfl op_zero ?_
    intro cs hcs
    have hgc := NV.new (T := 53) (N0 := w3.heap.size) (wr := wk) hk.size hcs
    have hbA : Below wk.heap.size wk (wk.alloc (.cells cs 53)) := (Below.refl _ _).alloc (Nat.le_refl _) _
    have ngagc := Nat.ne_of_lt hga.lt
    have ngbgc := Nat.ne_of_lt hgb.lt
    replace hk := bstep hk hbA
    replace hga := hga.step hbA
    replace hgb := hgb.step hbA
    clear hbA hcs
    generalize wk.heap.size = gc at hgc ngagc ngbgc ⊢
    generalize wk.alloc (.cells cs 53) = wk at hgc hga hgb hk ⊢
    refine hK.out _ _ hk (fun _ => ?_)
    clear hK K
    try simp only [Act.put, List.setIfInBounds_toArray, List.set_cons_zero, List.set_cons_succ]
    exact hbN27 w3 a2 m2 c2 i j k b off n c3 a0 len0 cap0 p1 p2 p3 n1 n2 n3 h1 h2 h3 hn hbl r1 r2 r3 e1 e2 e3 hw hP hQ _ hk ga hga gb hgb gc hgc ngagb ngagc ngbgc
set_option maxRecDepth 100000 in
set_option maxHeartbeats 1000000 in
theorem hbN29 (w3 : World) (a2 : Option Addr) (m2 c2 : Nat) (i j k : Int) (b off n c3 : Nat) (a0 : Option Addr) (len0 cap0 : Nat) (p1 p2 p3 : Opr) (n1 n2 n3 : Nat) (h1 : n1 < n) (h2 : n2 < n) (h3 : n3 < n) (hn : n ≤ 64) (hbl : b < w3.heap.size) (r1 : w3.rangeAt b (off + n1 * 7) (orC p1)) (r2 : w3.rangeAt b (off + n2 * 7) (orC p2)) (r3 : w3.rangeAt b (off + n3 * 7) (orC p3)) (e1 : leastV i 0 ((n : Int) - 1) = n1) (e2 : leastV j 0 ((n : Int) - 1) = n2) (e3 : leastV k 0 ((n : Int) - 1) = n3) (hw : IntKind.i64.wrap ((n : Int) - 1) = (n : Int) - 1) {Q : Exit → Act → World → Prop} (hP : ∀ (d : Option Tmp) (v : Value) (c : List PanicEntry) (a : Act) (w : World), Q (.panic c) (a.put d v) w → Q (.panic c) a w) (hQ : ∀ (wk : World) (hk : (fun W : World => Below w3.heap.size w3 W) wk) (ga : Nat) (hga : wk.heap[ga]? = some (.cells (orC p1).toArray 53 (0, 0))) (qga : w3.heap.size ≤ ga) (gb : Nat) (hgb : wk.heap[gb]? = some (.cells (orC p2).toArray 53 (0, 0))) (qgb : w3.heap.size ≤ gb) (gc : Nat) (hgc : wk.heap[gc]? = some (.cells (orC p3).toArray 53 (0, 0))) (qgc : w3.heap.size ≤ gc) (ngagb : ga ≠ gb) (ngagc : ga ≠ gc) (ngbgc : gb ≠ gc), Q .normal { tmps := #[.slice a2 m2 c2, .int .i64 i, .int .i64 j, .int .i64 k, undef, undef, undef, undef, .bool false, .slice (some ⟨b, off, none⟩) n c3, .int .i64 0, .pointer (some ⟨ga, 0, none⟩), .pointer (some ⟨gb, 0, none⟩), .pointer (some ⟨gc, 0, none⟩), undef, undef, undef, .slice a0 len0 cap0, .slice a2 m2 c2, .tuple #[.slice (some ⟨b, off, none⟩) n c3, .int .i64 0], .slice a2 m2 c2, .tuple #[.slice (some ⟨b, off, none⟩) n c3, .int .i64 0], .slice (some ⟨b, off, none⟩) n c3, .int .i64 0, .int .i64 0, .bool false, .bool false, .slice (some ⟨b, off, none⟩) n c3, .int .i64 (n : Int), .bool false, .bool false, undef, .slice (some ⟨b, off, none⟩) n c3, .int .i64 i, .slice (some ⟨b, off, none⟩) n c3, .int .i64 (n : Int), .int .i64 ((n : Int) - 1), .int .i64 (n1 : Int), .pointer (some ⟨b, off + n1 * 7, none⟩), .agg (orC p1).toArray, .slice (some ⟨b, off, none⟩) n c3, .int .i64 j, .slice (some ⟨b, off, none⟩) n c3, .int .i64 (n : Int), .int .i64 ((n : Int) - 1), .int .i64 (n2 : Int), .pointer (some ⟨b, off + n2 * 7, none⟩), .agg (orC p2).toArray, .slice (some ⟨b, off, none⟩) n c3, .int .i64 k, .slice (some ⟨b, off, none⟩) n c3, .int .i64 (n : Int), .int .i64 ((n : Int) - 1), .int .i64 (n3 : Int), .pointer (some ⟨b, off + n3 * 7, none⟩), .agg (orC p3).toArray, undef, undef, undef, undef, undef, undef, undef, undef, undef, undef, undef, undef, undef, undef, undef, undef, undef, undef, undef, undef, undef, undef, undef, undef, undef, undef, undef, undef, undef, undef, undef, undef, undef, undef, undef, undef, undef, undef], defers := [] } wk) (wk : World) (hk : (fun W : World => Below w3.heap.size w3 W) wk) (ga : Nat) (hga : NV 53 7 w3.heap.size ga wk) (gc : Nat) (hgc : NV 53 7 w3.heap.size gc wk) (ngagc : ga ≠ gc) :
    wpAnyH Try.prog .any hbNR Q (fun W : World => Below w3.heap.size w3 W) 13 #[true, true, true, true, true, false, false, false, true, true, true, true, true, false, false, false, true, true, true, true, true, false, false, false, true, false, true, false, false, false] { tmps := #[.slice a2 m2 c2, .int .i64 i, .int .i64 j, .int .i64 k, undef, undef, undef, undef, .bool false, .slice (some ⟨b, off, none⟩) n c3, .int .i64 0, .pointer (some ⟨ga, 0, none⟩), undef, .pointer (some ⟨gc, 0, none⟩), undef, undef, undef, .slice a0 len0 cap0, .slice a2 m2 c2, .tuple #[.slice (some ⟨b, off, none⟩) n c3, .int .i64 0], .slice a2 m2 c2, .tuple #[.slice (some ⟨b, off, none⟩) n c3, .int .i64 0], .slice (some ⟨b, off, none⟩) n c3, .int .i64 0, .int .i64 0, .bool false, .bool false, .slice (some ⟨b, off, none⟩) n c3, .int .i64 (n : Int), .bool false, .bool false, undef, .slice (some ⟨b, off, none⟩) n c3, .int .i64 i, .slice (some ⟨b, off, none⟩) n c3, .int .i64 (n : Int), .int .i64 ((n : Int) - 1), undef, undef, undef, .slice (some ⟨b, off, none⟩) n c3, .int .i64 j, .slice (some ⟨b, off, none⟩) n c3, .int .i64 (n : Int), .int .i64 ((n : Int) - 1), undef, undef, undef, .slice (some ⟨b, off, none⟩) n c3, .int .i64 k, .slice (some ⟨b, off, none⟩) n c3, .int .i64 (n : Int), .int .i64 ((n : Int) - 1), undef, undef, undef, undef, undef, undef, undef, undef, undef, undef, undef, undef, undef, undef, undef, undef, undef, undef, undef, undef, undef, undef, undef, undef, undef, undef, undef, undef, undef, undef, undef, undef, undef, undef, undef, undef, undef, undef, undef, undef, undef], defers := [] } wk := by
  refine wpAnyH_ready (rs := [5, 25]) (by decide +kernel) (by simp) ?_
  refine (AllReadyH.cons (o := hbNO5) rfl (fun K hK => ?_) (AllReadyH.cons (o := hbNO25) rfl (fun K hK => ?_) AllReadyH.nil))
  · go_simp
    refine (hb_least i n n1 e1 wk).mono ?_
    rintro e1 w1 ⟨rfl, hw1⟩
    subst hw1
    refine hK.out _ _ hk (fun _ => ?_)
    clear hK K
    try simp only [List.setIfInBounds_toArray, List.set_cons_zero, List.set_cons_succ]
    refine wpAnyH_take (i := 6) (oi := hbNO6) (v := .pointer (some ⟨b, off + n1 * 7, none⟩)) rfl (by kernel_rfl) (by kernel_rfl) (by kernel_rfl) (hP _ _) (Or.inl ⟨by rfl, ?y18⟩) hk ?r18
    case y18 => (intro w hSw; clear hSw; go_simp; first | done | with_reducible rfl)
    simp only [Act.put, List.setIfInBounds_toArray, List.set_cons_zero, List.set_cons_succ]
    refine wpAnyH_take (i := 7) (oi := hbNO7) (v := .agg (orC p1).toArray) rfl (by kernel_rfl) (by kernel_rfl) (by kernel_rfl) (hP _ _) (yieldsIf_load_mid (by rfl) 53 (.tmp 38) rfl b (off + n1 * 7) rfl _ _ (fun W h => nv_range r1 h hbl) Try.underlying53 rfl op_info) hk ?_
    simp only [Act.put, List.setIfInBounds_toArray, List.set_cons_zero, List.set_cons_succ]
    exact hbN21 w3 a2 m2 c2 i j k b off n c3 a0 len0 cap0 p1 p2 p3 n1 n2 n3 h1 h2 h3 hn hbl r1 r2 r3 e1 e2 e3 hw hP hQ _ hk ga hga gc hgc ngagc
  · rw [if_pos (by rfl)]
    refine wp_alloc_of 53 7 rfl op_zero ?_
    intro cs hcs
    have hgb := NV.new (T := 53) (N0 := w3.heap.size) (wr := wk) hk.size hcs
    have hbA : Below wk.heap.size wk (wk.alloc (.cells cs 53)) := (Below.refl _ _).alloc (Nat.le_refl _) _
    have ngagb := Nat.ne_of_lt hga.lt
    have ngbgc := Nat.ne_of_gt hgc.lt
    replace hk := bstep hk hbA
    replace hga := hga.step hbA
    replace hgc := hgc.step hbA
    clear hbA hcs
    generalize wk.heap.size = gb at hgb ngagb ngbgc ⊢
    generalize wk.alloc (.cells cs 53) = wk at hgb hga hgc hk ⊢
    refine hK.out _ _ hk (fun _ => ?_)
    clear hK K
    try simp only [Act.put, List.setIfInBounds_toArray, List.set_cons_zero, List.set_cons_succ]
    exact hbN27 w3 a2 m2 c2 i j k b off n c3 a0 len0 cap0 p1 p2 p3 n1 n2 n3 h1 h2 h3 hn hbl r1 r2 r3 e1 e2 e3 hw hP hQ _ hk ga hga gb hgb gc hgc ngagb ngagc ngbgc
set_option maxRecDepth 100000 in
set_option maxHeartbeats 1000000 in
theorem hbN30 (w3 : World) (a2 : Option Addr) (m2 c2 : Nat) (i j k : Int) (b off n c3 : Nat) (a0 : Option Addr) (len0 cap0 : Nat) (p1 p2 p3 : Opr) (n1 n2 n3 : Nat) (h1 : n1 < n) (h2 : n2 < n) (h3 : n3 < n) (hn : n ≤ 64) (hbl : b < w3.heap.size) (r1 : w3.rangeAt b (off + n1 * 7) (orC p1)) (r2 : w3.rangeAt b (off + n2 * 7) (orC p2)) (r3 : w3.rangeAt b (off + n3 * 7) (orC p3)) (e1 : leastV i 0 ((n : Int) - 1) = n1) (e2 : leastV j 0 ((n : Int) - 1) = n2) (e3 : leastV k 0 ((n : Int) - 1) = n3) (hw : IntKind.i64.wrap ((n : Int) - 1) = (n : Int) - 1) {Q : Exit → Act → World → Prop} (hP : ∀ (d : Option Tmp) (v : Value) (c : List PanicEntry) (a : Act) (w : World), Q (.panic c) (a.put d v) w → Q (.panic c) a w) (hQ : ∀ (wk : World) (hk : (fun W : World => Below w3.heap.size w3 W) wk) (ga : Nat) (hga : wk.heap[ga]? = some (.cells (orC p1).toArray 53 (0, 0))) (qga : w3.heap.size ≤ ga) (gb : Nat) (hgb : wk.heap[gb]? = some (.cells (orC p2).toArray 53 (0, 0))) (qgb : w3.heap.size ≤ gb) (gc : Nat) (hgc : wk.heap[gc]? = some (.cells (orC p3).toArray 53 (0, 0))) (qgc : w3.heap.size ≤ gc) (ngagb : ga ≠ gb) (ngagc : ga ≠ gc) (ngbgc : gb ≠ gc), Q .normal { tmps := #[.slice a2 m2 c2, .int .i64 i, .int .i64 j, .int .i64 k, undef, undef, undef, undef, .bool false, .slice (some ⟨b, off, none⟩) n c3, .int .i64 0, .pointer (some ⟨ga, 0, none⟩), .pointer (some ⟨gb, 0, none⟩), .pointer (some ⟨gc, 0, none⟩), undef, undef, undef, .slice a0 len0 cap0, .slice a2 m2 c2, .tuple #[.slice (some ⟨b, off, none⟩) n c3, .int .i64 0], .slice a2 m2 c2, .tuple #[.slice (some ⟨b, off, none⟩) n c3, .int .i64 0], .slice (some ⟨b, off, none⟩) n c3, .int .i64 0, .int .i64 0, .bool false, .bool false, .slice (some ⟨b, off, none⟩) n c3, .int .i64 (n : Int), .bool false, .bool false, undef, .slice (some ⟨b, off, none⟩) n c3, .int .i64 i, .slice (some ⟨b, off, none⟩) n c3, .int .i64 (n : Int), .int .i64 ((n : Int) - 1), .int .i64 (n1 : Int), .pointer (some ⟨b, off + n1 * 7, none⟩), .agg (orC p1).toArray, .slice (some ⟨b, off, none⟩) n c3, .int .i64 j, .slice (some ⟨b, off, none⟩) n c3, .int .i64 (n : Int), .int .i64 ((n : Int) - 1), .int .i64 (n2 : Int), .pointer (some ⟨b, off + n2 * 7, none⟩), .agg (orC p2).toArray, .slice (some ⟨b, off, none⟩) n c3, .int .i64 k, .slice (some ⟨b, off, none⟩) n c3, .int .i64 (n : Int), .int .i64 ((n : Int) - 1), .int .i64 (n3 : Int), .pointer (some ⟨b, off + n3 * 7, none⟩), .agg (orC p3).toArray, undef, undef, undef, undef, undef, undef, undef, undef, undef, undef, undef, undef, undef, undef, undef, undef, undef, undef, undef, undef, undef, undef, undef, undef, undef, undef, undef, undef, undef, undef, undef, undef, undef, undef, undef, undef, undef, undef], defers := [] } wk) (wk : World) (hk : (fun W : World => Below w3.heap.size w3 W) wk) (ga : Nat) (hga : NV 53 7 w3.heap.size ga wk) :
    wpAnyH Try.prog .any hbNR Q (fun W : World => Below w3.heap.size w3 W) 14 #[true, true, true, true, true, false, false, false, true, true, true, true, true, false, false, false, true, true, true, true, true, false, false, false, true, false, false, false, false, false] { tmps := #[.slice a2 m2 c2, .int .i64 i, .int .i64 j, .int .i64 k, undef, undef, undef, undef, .bool false, .slice (some ⟨b, off, none⟩) n c3, .int .i64 0, .pointer (some ⟨ga, 0, none⟩), undef, undef, undef, undef, undef, .slice a0 len0 cap0, .slice a2 m2 c2, .tuple #[.slice (some ⟨b, off, none⟩) n c3, .int .i64 0], .slice a2 m2 c2, .tuple #[.slice (some ⟨b, off, none⟩) n c3, .int .i64 0], .slice (some ⟨b, off, none⟩) n c3, .int .i64 0, .int .i64 0, .bool false, .bool false, .slice (some ⟨b, off, none⟩) n c3, .int .i64 (n : Int), .bool false, .bool false, undef, .slice (some ⟨b, off, none⟩) n c3, .int .i64 i, .slice (some ⟨b, off, none⟩) n c3, .int .i64 (n : Int), .int .i64 ((n : Int) - 1), undef, undef, undef, .slice (some ⟨b, off, none⟩) n c3, .int .i64 j, .slice (some ⟨b, off, none⟩) n c3, .int .i64 (n : Int), .int .i64 ((n : Int) - 1), undef, undef, undef, .slice (some ⟨b, off, none⟩) n c3, .int .i64 k, .slice (some ⟨b, off, none⟩) n c3, .int .i64 (n : Int), .int .i64 ((n : Int) - 1), undef, undef, undef, undef, undef, undef, undef, undef, undef, undef, undef, undef, undef, undef, undef, undef, undef, undef, undef, undef, undef, undef, undef, undef, undef, undef, undef, undef, undef, undef, undef, undef, undef, undef, undef, undef, undef, undef, undef, undef, undef], defers := [] } wk := by
  refine wpAnyH_ready (rs := [5, 25, 26]) (by decide +kernel) (by simp) ?_
  refine (AllReadyH.cons (o := hbNO5) rfl (fun K hK => ?_) (AllReadyH.cons (o := hbNO25) rfl (fun K hK => ?_) (AllReadyH.cons (o := hbNO26) rfl (fun K hK => ?_) AllReadyH.nil)))
  · go_simp
    refine (hb_least i n n1 e1 wk).mono ?_
    rintro e1 w1 ⟨rfl, hw1⟩
    subst hw1
    refine hK.out _ _ hk (fun _ => ?_)
    clear hK K
    try simp only [List.setIfInBounds_toArray, List.set_cons_zero, List.set_cons_succ]
    refine wpAnyH_take (i := 6) (oi := hbNO6) (v := .pointer (some ⟨b, off + n1 * 7, none⟩)) rfl (by kernel_rfl) (by kernel_rfl) (by kernel_rfl) (hP _ _) (Or.inl ⟨by rfl, ?y19⟩) hk ?r19
    case y19 => (intro w hSw; clear hSw; go_simp; first | done | with_reducible rfl)
    simp only [Act.put, List.setIfInBounds_toArray, List.set_cons_zero, List.set_cons_succ]
    refine wpAnyH_take (i := 7) (oi := hbNO7) (v := .agg (orC p1).toArray) rfl (by kernel_rfl) (by kernel_rfl) (by kernel_rfl) (hP _ _) (yieldsIf_load_mid (by rfl) 53 (.tmp 38) rfl b (off + n1 * 7) rfl _ _ (fun W h => nv_range r1 h hbl) Try.underlying53 rfl op_info) hk ?_
    simp only [Act.put, List.setIfInBounds_toArray, List.set_cons_zero, List.set_cons_succ]
    exact hbN22 w3 a2 m2 c2 i j k b off n c3 a0 len0 cap0 p1 p2 p3 n1 n2 n3 h1 h2 h3 hn hbl r1 r2 r3 e1 e2 e3 hw hP hQ _ hk ga hga
  · rw [if_pos (by rfl)]
    refine wp_alloc_of 53 7 rfl op_zero ?_
    intro cs hcs
    have hgb := NV.new (T := 53) (N0 := w3.heap.size) (wr := wk) hk.size hcs
    have hbA : Below wk.heap.size wk (wk.alloc (.cells cs 53)) := (Below.refl _ _).alloc (Nat.le_refl _) _
    have ngagb := Nat.ne_of_lt hga.lt
    replace hk := bstep hk hbA
    replace hga := hga.step hbA
    clear hbA hcs
    generalize wk.heap.size = gb at hgb ngagb ⊢
    generalize wk.alloc (.cells cs 53) = wk at hgb hga hk ⊢
    refine hK.out _ _ hk (fun _ => ?_)
    clear hK K
    try simp only [Act.put, List.setIfInBounds_toArray, List.set_cons_zero, List.set_cons_succ]
    exact hbN28 w3 a2 m2 c2 i j k b off n c3 a0 len0 cap0 p1 p2 p3 n1 n2 n3 h1 h2 h3 hn hbl r1 r2 r3 e1 e2 e3 hw hP hQ _ hk ga hga gb hgb ngagb
  · rw [if_pos (by rfl)]
    refine wp_alloc_of 53 7 rfl op_zero ?_
    intro cs hcs
    have hgc := NV.new (T := 53) (N0 := w3.heap.size) (wr := wk) hk.size hcs
    have hbA : Below wk.heap.size wk (wk.alloc (.cells cs 53)) := (Below.refl _ _).alloc (Nat.le_refl _) _
    have ngagc := Nat.ne_of_lt hga.lt
    replace hk := bstep hk hbA
    replace hga := hga.step hbA
    clear hbA hcs
    generalize wk.heap.size = gc at hgc ngagc ⊢
    generalize wk.alloc (.cells cs 53) = wk at hgc hga hk ⊢
    refine hK.out _ _ hk (fun _ => ?_)
    clear hK K
    try simp only [Act.put, List.setIfInBounds_toArray, List.set_cons_zero, List.set_cons_succ]
    exact hbN29 w3 a2 m2 c2 i j k b off n c3 a0 len0 cap0 p1 p2 p3 n1 n2 n3 h1 h2 h3 hn hbl r1 r2 r3 e1 e2 e3 hw hP hQ _ hk ga hga gc hgc ngagc
set_option maxRecDepth 100000 in
set_option maxHeartbeats 1000000 in
theorem hbN31 (w3 : World) (a2 : Option Addr) (m2 c2 : Nat) (i j k : Int) (b off n c3 : Nat) (a0 : Option Addr) (len0 cap0 : Nat) (p1 p2 p3 : Opr) (n1 n2 n3 : Nat) (h1 : n1 < n) (h2 : n2 < n) (h3 : n3 < n) (hn : n ≤ 64) (hbl : b < w3.heap.size) (r1 : w3.rangeAt b (off + n1 * 7) (orC p1)) (r2 : w3.rangeAt b (off + n2 * 7) (orC p2)) (r3 : w3.rangeAt b (off + n3 * 7) (orC p3)) (e1 : leastV i 0 ((n : Int) - 1) = n1) (e2 : leastV j 0 ((n : Int) - 1) = n2) (e3 : leastV k 0 ((n : Int) - 1) = n3) (hw : IntKind.i64.wrap ((n : Int) - 1) = (n : Int) - 1) {Q : Exit → Act → World → Prop} (hP : ∀ (d : Option Tmp) (v : Value) (c : List PanicEntry) (a : Act) (w : World), Q (.panic c) (a.put d v) w → Q (.panic c) a w) (hQ : ∀ (wk : World) (hk : (fun W : World => Below w3.heap.size w3 W) wk) (ga : Nat) (hga : wk.heap[ga]? = some (.cells (orC p1).toArray 53 (0, 0))) (qga : w3.heap.size ≤ ga) (gb : Nat) (hgb : wk.heap[gb]? = some (.cells (orC p2).toArray 53 (0, 0))) (qgb : w3.heap.size ≤ gb) (gc : Nat) (hgc : wk.heap[gc]? = some (.cells (orC p3).toArray 53 (0, 0))) (qgc : w3.heap.size ≤ gc) (ngagb : ga ≠ gb) (ngagc : ga ≠ gc) (ngbgc : gb ≠ gc), Q .normal { tmps := #[.slice a2 m2 c2, .int .i64 i, .int .i64 j, .int .i64 k, undef, undef, undef, undef, .bool false, .slice (some ⟨b, off, none⟩) n c3, .int .i64 0, .pointer (some ⟨ga, 0, none⟩), .pointer (some ⟨gb, 0, none⟩), .pointer (some ⟨gc, 0, none⟩), undef, undef, undef, .slice a0 len0 cap0, .slice a2 m2 c2, .tuple #[.slice (some ⟨b, off, none⟩) n c3, .int .i64 0], .slice a2 m2 c2, .tuple #[.slice (some ⟨b, off, none⟩) n c3, .int .i64 0], .slice (some ⟨b, off, none⟩) n c3, .int .i64 0, .int .i64 0, .bool false, .bool false, .slice (some ⟨b, off, none⟩) n c3, .int .i64 (n : Int), .bool false, .bool false, undef, .slice (some ⟨b, off, none⟩) n c3, .int .i64 i, .slice (some ⟨b, off, none⟩) n c3, .int .i64 (n : Int), .int .i64 ((n : Int) - 1), .int .i64 (n1 : Int), .pointer (some ⟨b, off + n1 * 7, none⟩), .agg (orC p1).toArray, .slice (some ⟨b, off, none⟩) n c3, .int .i64 j, .slice (some ⟨b, off, none⟩) n c3, .int .i64 (n : Int), .int .i64 ((n : Int) - 1), .int .i64 (n2 : Int), .pointer (some ⟨b, off + n2 * 7, none⟩), .agg (orC p2).toArray, .slice (some ⟨b, off, none⟩) n c3, .int .i64 k, .slice (some ⟨b, off, none⟩) n c3, .int .i64 (n : Int), .int .i64 ((n : Int) - 1), .int .i64 (n3 : Int), .pointer (some ⟨b, off + n3 * 7, none⟩), .agg (orC p3).toArray, undef, undef, undef, undef, undef, undef, undef, undef, undef, undef, undef, undef, undef, undef, undef, undef, undef, undef, undef, undef, undef, undef, undef, undef, undef, undef, undef, undef, undef, undef, undef, undef, undef, undef, undef, undef, undef, undef], defers := [] } wk) (wk : World) (hk : (fun W : World => Below w3.heap.size w3 W) wk) (gb : Nat) (hgb : NV 53 7 w3.heap.size gb wk) (gc : Nat) (hgc : NV 53 7 w3.heap.size gc wk) (ngbgc : gb ≠ gc) :
    wpAnyH Try.prog .any hbNR Q (fun W : World => Below w3.heap.size w3 W) 13 #[true, true, true, true, true, false, false, false, true, true, true, true, true, false, false, false, true, true, true, true, true, false, false, false, false, true, true, false, false, false] { tmps := #[.slice a2 m2 c2, .int .i64 i, .int .i64 j, .int .i64 k, undef, undef, undef, undef, .bool false, .slice (some ⟨b, off, none⟩) n c3, .int .i64 0, undef, .pointer (some ⟨gb, 0, none⟩), .pointer (some ⟨gc, 0, none⟩), undef, undef, undef, .slice a0 len0 cap0, .slice a2 m2 c2, .tuple #[.slice (some ⟨b, off, none⟩) n c3, .int .i64 0], .slice a2 m2 c2, .tuple #[.slice (some ⟨b, off, none⟩) n c3, .int .i64 0], .slice (some ⟨b, off, none⟩) n c3, .int .i64 0, .int .i64 0, .bool false, .bool false, .slice (some ⟨b, off, none⟩) n c3, .int .i64 (n : Int), .bool false, .bool false, undef, .slice (some ⟨b, off, none⟩) n c3, .int .i64 i, .slice (some ⟨b, off, none⟩) n c3, .int .i64 (n : Int), .int .i64 ((n : Int) - 1), undef, undef, undef, .slice (some ⟨b, off, none⟩) n c3, .int .i64 j, .slice (some ⟨b, off, none⟩) n c3, .int .i64 (n : Int), .int .i64 ((n : Int) - 1), undef, undef, undef, .slice (some ⟨b, off, none⟩) n c3, .int .i64 k, .slice (some ⟨b, off, none⟩) n c3, .int .i64 (n : Int), .int .i64 ((n : Int) - 1), undef, undef, undef, undef, undef, undef, undef, undef, undef, undef, undef, undef, undef, undef, undef, undef, undef, undef, undef, undef, undef, undef, undef, undef, undef, undef, undef, undef, undef, undef, undef, undef, undef, undef, undef, undef, undef, undef, undef, undef, undef], defers := [] } wk := by
  refine wpAnyH_ready (rs := [5, 24]) (by decide +kernel) (by simp) ?_
  refine (AllReadyH.cons (o := hbNO5) rfl (fun K hK => ?_) (AllReadyH.cons (o := hbNO24) rfl (fun K hK => ?_) AllReadyH.nil))
  · go_simp
    refine (hb_least i n n1 e1 wk).mono ?_
    rintro e1 w1 ⟨rfl, hw1⟩
    subst hw1
    refine hK.out _ _ hk (fun _ => ?_)
    clear hK K
    try simp only [List.setIfInBounds_toArray, List.set_cons_zero, List.set_cons_succ]
    refine wpAnyH_take (i := 6) (oi := hbNO6) (v := .pointer (some ⟨b, off + n1 * 7, none⟩)) rfl (by kernel_rfl) (by kernel_rfl) (by kernel_rfl) (hP _ _) (Or.inl ⟨by rfl, ?y20⟩) hk ?r20
    case y20 => (intro w hSw; clear hSw; go_simp; first | done | with_reducible rfl)
    simp only [Act.put, List.setIfInBounds_toArray, List.set_cons_zero, List.set_cons_succ]
    refine wpAnyH_take (i := 7) (oi := hbNO7) (v := .agg (orC p1).toArray) rfl (by kernel_rfl) (by kernel_rfl) (by kernel_rfl) (hP _ _) (yieldsIf_load_mid (by rfl) 53 (.tmp 38) rfl b (off + n1 * 7) rfl _ _ (fun W h => nv_range r1 h hbl) Try.underlying53 rfl op_info) hk ?_
    simp only [Act.put, List.setIfInBounds_toArray, List.set_cons_zero, List.set_cons_succ]
    exact hbN23 w3 a2 m2 c2 i j k b off n c3 a0 len0 cap0 p1 p2 p3 n1 n2 n3 h1 h2 h3 hn hbl r1 r2 r3 e1 e2 e3 hw hP hQ _ hk gb hgb gc hgc ngbgc
  · rw [if_pos (by rfl)]
    refine wp_alloc_of 53 7 rfl op_zero ?_
    intro cs hcs
    have hga := NV.new (T := 53) (N0 := w3.heap.size) (wr := wk) hk.size hcs
    have hbA : Below wk.heap.size wk (wk.alloc (.cells cs 53)) := (Below.refl _ _).alloc (Nat.le_refl _) _
    have ngagb := Nat.ne_of_gt hgb.lt
    have ngagc := Nat.ne_of_gt hgc.lt
    replace hk := bstep hk hbA
    replace hgb := hgb.step hbA
    replace hgc := hgc.step hbA
    clear hbA hcs
    generalize wk.heap.size = ga at hga ngagb ngagc ⊢
    generalize wk.alloc (.cells cs 53) = wk at hga hgb hgc hk ⊢
    refine hK.out _ _ hk (fun _ => ?_)
    clear hK K
    try simp only [Act.put, List.setIfInBounds_toArray, List.set_cons_zero, List.set_cons_succ]
    exact hbN27 w3 a2 m2 c2 i j k b off n c3 a0 len0 cap0 p1 p2 p3 n1 n2 n3 h1 h2 h3 hn hbl r1 r2 r3 e1 e2 e3 hw hP hQ _ hk ga hga gb hgb gc hgc ngagb ngagc ngbgc
set_option maxRecDepth 100000 in
set_option maxHeartbeats 1000000 in
theorem hbN32 (w3 : World) (a2 : Option Addr) (m2 c2 : Nat) (i j k : Int) (b off n c3 : Nat) (a0 : Option Addr) (len0 cap0 : Nat) (p1 p2 p3 : Opr) (n1 n2 n3 : Nat) (h1 : n1 < n) (h2 : n2 < n) (h3 : n3 < n) (hn : n ≤ 64) (hbl : b < w3.heap.size) (r1 : w3.rangeAt b (off + n1 * 7) (orC p1)) (r2 : w3.rangeAt b (off + n2 * 7) (orC p2)) (r3 : w3.rangeAt b (off + n3 * 7) (orC p3)) (e1 : leastV i 0 ((n : Int) - 1) = n1) (e2 : leastV j 0 ((n : Int) - 1) = n2) (e3 : leastV k 0 ((n : Int) - 1) = n3) (hw : IntKind.i64.wrap ((n : Int) - 1) = (n : Int) - 1) {Q : Exit → Act → World → Prop} (hP : ∀ (d : Option Tmp) (v : Value) (c : List PanicEntry) (a : Act) (w : World), Q (.panic c) (a.put d v) w → Q (.panic c) a w) (hQ : ∀ (wk : World) (hk : (fun W : World => Below w3.heap.size w3 W) wk) (ga : Nat) (hga : wk.heap[ga]? = some (.cells (orC p1).toArray 53 (0, 0))) (qga : w3.heap.size ≤ ga) (gb : Nat) (hgb : wk.heap[gb]? = some (.cells (orC p2).toArray 53 (0, 0))) (qgb : w3.heap.size ≤ gb) (gc : Nat) (hgc : wk.heap[gc]? = some (.cells (orC p3).toArray 53 (0, 0))) (qgc : w3.heap.size ≤ gc) (ngagb : ga ≠ gb) (ngagc : ga ≠ gc) (ngbgc : gb ≠ gc), Q .normal { tmps := #[.slice a2 m2 c2, .int .i64 i, .int .i64 j, .int .i64 k, undef, undef, undef, undef, .bool false, .slice (some ⟨b, off, none⟩) n c3, .int .i64 0, .pointer (some ⟨ga, 0, none⟩), .pointer (some ⟨gb, 0, none⟩), .pointer (some ⟨gc, 0, none⟩), undef, undef, undef, .slice a0 len0 cap0, .slice a2 m2 c2, .tuple #[.slice (some ⟨b, off, none⟩) n c3, .int .i64 0], .slice a2 m2 c2, .tuple #[.slice (some ⟨b, off, none⟩) n c3, .int .i64 0], .slice (some ⟨b, off, none⟩) n c3, .int .i64 0, .int .i64 0, .bool false, .bool false, .slice (some ⟨b, off, none⟩) n c3, .int .i64 (n : Int), .bool false, .bool false, undef, .slice (some ⟨b, off, none⟩) n c3, .int .i64 i, .slice (some ⟨b, off, none⟩) n c3, .int .i64 (n : Int), .int .i64 ((n : Int) - 1), .int .i64 (n1 : Int), .pointer (some ⟨b, off + n1 * 7, none⟩), .agg (orC p1).toArray, .slice (some ⟨b, off, none⟩) n c3, .int .i64 j, .slice (some ⟨b, off, none⟩) n c3, .int .i64 (n : Int), .int .i64 ((n : Int) - 1), .int .i64 (n2 : Int), .pointer (some ⟨b, off + n2 * 7, none⟩), .agg (orC p2).toArray, .slice (some ⟨b, off, none⟩) n c3, .int .i64 k, .slice (some ⟨b, off, none⟩) n c3, .int .i64 (n : Int), .int .i64 ((n : Int) - 1), .int .i64 (n3 : Int), .pointer (some ⟨b, off + n3 * 7, none⟩), .agg (orC p3).toArray, undef, undef, undef, undef, undef, undef, undef, undef, undef, undef, undef, undef, undef, undef, undef, undef, undef, undef, undef, undef, undef, undef, undef, undef, undef, undef, undef, undef, undef, undef, undef, undef, undef, undef, undef, undef, undef, undef], defers := [] } wk) (wk : World) (hk : (fun W : World => Below w3.heap.size w3 W) wk) (gb : Nat) (hgb : NV 53 7 w3.heap.size gb wk) :
    wpAnyH Try.prog .any hbNR Q (fun W : World => Below w3.heap.size w3 W) 14 #[true, true, true, true, true, false, false, false, true, true, true, true, true, false, false, false, true, true, true, true, true, false, false, false, false, true, false, false, false, false] { tmps := #[.slice a2 m2 c2, .int .i64 i, .int .i64 j, .int .i64 k, undef, undef, undef, undef, .bool false, .slice (some ⟨b, off, none⟩) n c3, .int .i64 0, undef, .pointer (some ⟨gb, 0, none⟩), undef, undef, undef, undef, .slice a0 len0 cap0, .slice a2 m2 c2, .tuple #[.slice (some ⟨b, off, none⟩) n c3, .int .i64 0], .slice a2 m2 c2, .tuple #[.slice (some ⟨b, off, none⟩) n c3, .int .i64 0], .slice (some ⟨b, off, none⟩) n c3, .int .i64 0, .int .i64 0, .bool false, .bool false, .slice (some ⟨b, off, none⟩) n c3, .int .i64 (n : Int), .bool false, .bool false, undef, .slice (some ⟨b, off, none⟩) n c3, .int .i64 i, .slice (some ⟨b, off, none⟩) n c3, .int .i64 (n : Int), .int .i64 ((n : Int) - 1), undef, undef, undef, .slice (some ⟨b, off, none⟩) n c3, .int .i64 j, .slice (some ⟨b, off, none⟩) n c3, .int .i64 (n : Int), .int .i64 ((n : Int) - 1), undef, undef, undef, .slice (some ⟨b, off, none⟩) n c3, .int .i64 k, .slice (some ⟨b, off, none⟩) n c3, .int .i64 (n : Int), .int .i64 ((n : Int) - 1), undef, undef, undef, undef, undef, undef, undef, undef, undef, undef, undef, undef, undef, undef, undef, undef, undef, undef, undef, undef, undef, undef, undef, undef, undef, undef, undef, undef, undef, undef, undef, undef, undef, undef, undef, undef, undef, undef, undef, undef, undef], defers := [] } wk := by
  refine wpAnyH_ready (rs := [5, 24, 26]) (by decide +kernel) (by simp) ?_
  refine (AllReadyH.cons (o := hbNO5) rfl (fun K hK => ?_) (AllReadyH.cons (o := hbNO24) rfl (fun K hK => ?_) (AllReadyH.cons (o := hbNO26) rfl (fun K hK => ?_) AllReadyH.nil)))
  · go_simp
    refine (hb_least i n n1 e1 wk).mono ?_
    rintro e1 w1 ⟨rfl, hw1⟩
    subst hw1
    refine hK.out _ _ hk (fun _ => ?_)
    clear hK K
    try simp only [List.setIfInBounds_toArray, List.set_cons_zero, List.set_cons_succ]
    refine wpAnyH_take (i := 6) (oi := hbNO6) (v := .pointer (some ⟨b, off + n1 * 7, none⟩)) rfl (by kernel_rfl) (by kernel_rfl) (by kernel_rfl) (hP _ _) (Or.inl ⟨by rfl, ?y21⟩) hk ?r21
    case y21 => (intro w hSw; clear hSw; go_simp; first | done | with_reducible rfl)
    simp only [Act.put, List.setIfInBounds_toArray, List.set_cons_zero, List.set_cons_succ]
    refine wpAnyH_take (i := 7) (oi := hbNO7) (v := .agg (orC p1).toArray) rfl (by kernel_rfl) (by kernel_rfl) (by kernel_rfl) (hP _ _) (yieldsIf_load_mid (by rfl) 53 (.tmp 38) rfl b (off + n1 * 7) rfl _ _ (fun W h => nv_range r1 h hbl) Try.underlying53 rfl op_info) hk ?_
    simp only [Act.put, List.setIfInBounds_toArray, List.set_cons_zero, List.set_cons_succ]
    exact hbN24 w3 a2 m2 c2 i j k b off n c3 a0 len0 cap0 p1 p2 p3 n1 n2 n3 h1 h2 h3 hn hbl r1 r2 r3 e1 e2 e3 hw hP hQ _ hk gb hgb
  · rw [if_pos (by rfl)]
    refine wp_alloc_of 53 7 rfl op_zero ?_
    intro cs hcs
    have hga := NV.new (T := 53) (N0 := w3.heap.size) (wr := wk) hk.size hcs
    have hbA : Below wk.heap.size wk (wk.alloc (.cells cs 53)) := (Below.refl _ _).alloc (Nat.le_refl _) _
    have ngagb := Nat.ne_of_gt hgb.lt
    replace hk := bstep hk hbA
    replace hgb := hgb.step hbA
    clear hbA hcs
    generalize wk.heap.size = ga at hga ngagb ⊢
    generalize wk.alloc (.cells cs 53) = wk at hga hgb hk ⊢
    refine hK.out _ _ hk (fun _ => ?_)
    clear hK K
    try simp only [Act.put, List.setIfInBounds_toArray, List.set_cons_zero, List.set_cons_succ]
    exact hbN28 w3 a2 m2 c2 i j k b off n c3 a0 len0 cap0 p1 p2 p3 n1 n2 n3 h1 h2 h3 hn hbl r1 r2 r3 e1 e2 e3 hw hP hQ _ hk ga hga gb hgb ngagb
  · rw [if_pos (by rfl)]
    refine wp_alloc_of 53 7 rfl op_zero ?_
    intro cs hcs
    have hgc := NV.new (T := 53) (N0 := w3.heap.size) (wr := wk) hk.size hcs
    have hbA : Below wk.heap.size wk (wk.alloc (.cells cs 53)) := (Below.refl _ _).alloc (Nat.le_refl _) _
    have ngbgc := Nat.ne_of_lt hgb.lt
    replace hk := bstep hk hbA
    replace hgb := hgb.step hbA
    clear hbA hcs
    generalize wk.heap.size = gc at hgc ngbgc ⊢
    generalize wk.alloc (.cells cs 53) = wk at hgc hgb hk ⊢
    refine hK.out _ _ hk (fun _ => ?_)
    clear hK K
    try simp only [Act.put, List.setIfInBounds_toArray, List.set_cons_zero, List.set_cons_succ]
    exact hbN31 w3 a2 m2 c2 i j k b off n c3 a0 len0 cap0 p1 p2 p3 n1 n2 n3 h1 h2 h3 hn hbl r1 r2 r3 e1 e2 e3 hw hP hQ _ hk gb hgb gc hgc ngbgc
set_option maxRecDepth 100000 in
set_option maxHeartbeats 1000000 in
theorem hbN33 (w3 : World) (a2 : Option Addr) (m2 c2 : Nat) (i j k : Int) (b off n c3 : Nat) (a0 : Option Addr) (len0 cap0 : Nat) (p1 p2 p3 : Opr) (n1 n2 n3 : Nat) (h1 : n1 < n) (h2 : n2 < n) (h3 : n3 < n) (hn : n ≤ 64) (hbl : b < w3.heap.size) (r1 : w3.rangeAt b (off + n1 * 7) (orC p1)) (r2 : w3.rangeAt b (off + n2 * 7) (orC p2)) (r3 : w3.rangeAt b (off + n3 * 7) (orC p3)) (e1 : leastV i 0 ((n : Int) - 1) = n1) (e2 : leastV j 0 ((n : Int) - 1) = n2) (e3 : leastV k 0 ((n : Int) - 1) = n3) (hw : IntKind.i64.wrap ((n : Int) - 1) = (n : Int) - 1) {Q : Exit → Act → World → Prop} (hP : ∀ (d : Option Tmp) (v : Value) (c : List PanicEntry) (a : Act) (w : World), Q (.panic c) (a.put d v) w → Q (.panic c) a w) (hQ : ∀ (wk : World) (hk : (fun W : World => Below w3.heap.size w3 W) wk) (ga : Nat) (hga : wk.heap[ga]? = some (.cells (orC p1).toArray 53 (0, 0))) (qga : w3.heap.size ≤ ga) (gb : Nat) (hgb : wk.heap[gb]? = some (.cells (orC p2).toArray 53 (0, 0))) (qgb : w3.heap.size ≤ gb) (gc : Nat) (hgc : wk.heap[gc]? = some (.cells (orC p3).toArray 53 (0, 0))) (qgc : w3.heap.size ≤ gc) (ngagb : ga ≠ gb) (ngagc : ga ≠ gc) (ngbgc : gb ≠ gc), Q .normal { tmps := #[.slice a2 m2 c2, .int .i64 i, .int .i64 j, .int .i64 k, undef, undef, undef, undef, .bool false, .slice (some ⟨b, off, none⟩) n c3, .int .i64 0, .pointer (some ⟨ga, 0, none⟩), .pointer (some ⟨gb, 0, none⟩), .pointer (some ⟨gc, 0, none⟩), undef, undef, undef, .slice a0 len0 cap0, .slice a2 m2 c2, .tuple #[.slice (some ⟨b, off, none⟩) n c3, .int .i64 0], .slice a2 m2 c2, .tuple #[.slice (some ⟨b, off, none⟩) n c3, .int .i64 0], .slice (some ⟨b, off, none⟩) n c3, .int .i64 0, .int .i64 0, .bool false, .bool false, .slice (some ⟨b, off, none⟩) n c3, .int .i64 (n : Int), .bool false, .bool false, undef, .slice (some ⟨b, off, none⟩) n c3, .int .i64 i, .slice (some ⟨b, off, none⟩) n c3, .int .i64 (n : Int), .int .i64 ((n : Int) - 1), .int .i64 (n1 : Int), .pointer (some ⟨b, off + n1 * 7, none⟩), .agg (orC p1).toArray, .slice (some ⟨b, off, none⟩) n c3, .int .i64 j, .slice (some ⟨b, off, none⟩) n c3, .int .i64 (n : Int), .int .i64 ((n : Int) - 1), .int .i64 (n2 : Int), .pointer (some ⟨b, off + n2 * 7, none⟩), .agg (orC p2).toArray, .slice (some ⟨b, off, none⟩) n c3, .int .i64 k, .slice (some ⟨b, off, none⟩) n c3, .int .i64 (n : Int), .int .i64 ((n : Int) - 1), .int .i64 (n3 : Int), .pointer (some ⟨b, off + n3 * 7, none⟩), .agg (orC p3).toArray, undef, undef, undef, undef, undef, undef, undef, undef, undef, undef, undef, undef, undef, undef, undef, undef, undef, undef, undef, undef, undef, undef, undef, undef, undef, undef, undef, undef, undef, undef, undef, undef, undef, undef, undef, undef, undef, undef], defers := [] } wk) (wk : World) (hk : (fun W : World => Below w3.heap.size w3 W) wk) (gc : Nat) (hgc : NV 53 7 w3.heap.size gc wk) :
    wpAnyH Try.prog .any hbNR Q (fun W : World => Below w3.heap.size w3 W) 14 #[true, true, true, true, true, false, false, false, true, true, true, true, true, false, false, false, true, true, true, true, true, false, false, false, false, false, true, false, false, false] { tmps := #[.slice a2 m2 c2, .int .i64 i, .int .i64 j, .int .i64 k, undef, undef, undef, undef, .bool false, .slice (some ⟨b, off, none⟩) n c3, .int .i64 0, undef, undef, .pointer (some ⟨gc, 0, none⟩), undef, undef, undef, .slice a0 len0 cap0, .slice a2 m2 c2, .tuple #[.slice (some ⟨b, off, none⟩) n c3, .int .i64 0], .slice a2 m2 c2, .tuple #[.slice (some ⟨b, off, none⟩) n c3, .int .i64 0], .slice (some ⟨b, off, none⟩) n c3, .int .i64 0, .int .i64 0, .bool false, .bool false, .slice (some ⟨b, off, none⟩) n c3, .int .i64 (n : Int), .bool false, .bool false, undef, .slice (some ⟨b, off, none⟩) n c3, .int .i64 i, .slice (some ⟨b, off, none⟩) n c3, .int .i64 (n : Int), .int .i64 ((n : Int) - 1), undef, undef, undef, .slice (some ⟨b, off, none⟩) n c3, .int .i64 j, .slice (some ⟨b, off, none⟩) n c3, .int .i64 (n : Int), .int .i64 ((n : Int) - 1), undef, undef, undef, .slice (some ⟨b, off, none⟩) n c3, .int .i64 k, .slice (some ⟨b, off, none⟩) n c3, .int .i64 (n : Int), .int .i64 ((n : Int) - 1), undef, undef, undef, undef, undef, undef, undef, undef, undef, undef, undef, undef, undef, undef, undef, undef, undef, undef, undef, undef, undef, undef, undef, undef, undef, undef, undef, undef, undef, undef, undef, undef, undef, undef, undef, undef, undef, undef, undef, undef, undef], defers := [] } wk := by
  refine wpAnyH_ready (rs := [5, 24, 25]) (by decide +kernel) (by simp) ?_
  refine (AllReadyH.cons (o := hbNO5) rfl (fun K hK => ?_) (AllReadyH.cons (o := hbNO24) rfl (fun K hK => ?_) (AllReadyH.cons (o := hbNO25) rfl (fun K hK => ?_) AllReadyH.nil)))
  · go_simp
    refine (hb_least i n n1 e1 wk).mono ?_
    rintro e1 w1 ⟨rfl, hw1⟩
    subst hw1
    refine hK.out _ _ hk (fun _ => ?_)
    clear hK K
    try simp only [List.setIfInBounds_toArray, List.set_cons_zero, List.set_cons_succ]
    refine wpAnyH_take (i := 6) (oi := hbNO6) (v := .pointer (some ⟨b, off + n1 * 7, none⟩)) rfl (by kernel_rfl) (by kernel_rfl) (by kernel_rfl) (hP _ _) (Or.inl ⟨by rfl, ?y22⟩) hk ?r22
    case y22 => (intro w hSw; clear hSw; go_simp; first | done | with_reducible rfl)
    simp only [Act.put, List.setIfInBounds_toArray, List.set_cons_zero, List.set_cons_succ]
    refine wpAnyH_take (i := 7) (oi := hbNO7) (v := .agg (orC p1).toArray) rfl (by kernel_rfl) (by kernel_rfl) (by kernel_rfl) (hP _ _) (yieldsIf_load_mid (by rfl) 53 (.tmp 38) rfl b (off + n1 * 7) rfl _ _ (fun W h => nv_range r1 h hbl) Try.underlying53 rfl op_info) hk ?_
    simp only [Act.put, List.setIfInBounds_toArray, List.set_cons_zero, List.set_cons_succ]
    exact hbN25 w3 a2 m2 c2 i j k b off n c3 a0 len0 cap0 p1 p2 p3 n1 n2 n3 h1 h2 h3 hn hbl r1 r2 r3 e1 e2 e3 hw hP hQ _ hk gc hgc
  · rw [if_pos (by rfl)]
    refine wp_alloc_of 53 7 rfl op_zero ?_
    intro cs hcs
    have hga := NV.new (T := 53) (N0 := w3.heap.size) (wr := wk) hk.size hcs
    have hbA : Below wk.heap.size wk (wk.alloc (.cells cs 53)) := (Below.refl _ _).alloc (Nat.le_refl _) _
    have ngagc := Nat.ne_of_gt hgc.lt
    replace hk := bstep hk hbA
    replace hgc := hgc.step hbA
    clear hbA hcs
    generalize wk.heap.size = ga at hga ngagc ⊢
    generalize wk.alloc (.cells cs 53) = wk at hga hgc hk ⊢
    refine hK.out _ _ hk (fun _ => ?_)
    clear hK K
    try simp only [Act.put, List.setIfInBounds_toArray, List.set_cons_zero, List.set_cons_succ]
    exact hbN29 w3 a2 m2 c2 i j k b off n c3 a0 len0 cap0 p1 p2 p3 n1 n2 n3 h1 h2 h3 hn hbl r1 r2 r3 e1 e2 e3 hw hP hQ _ hk ga hga gc hgc ngagc
  · rw [if_pos (by rfl)]
    refine wp_alloc_of 53 7 rfl op_zero ?_
    intro cs hcs
    have hgb := NV.new (T := 53) (N0 := w3.heap.size) (wr := wk) hk.size hcs
    have hbA : Below wk.heap.size wk (wk.alloc (.cells cs 53)) := (Below.refl _ _).alloc (Nat.le_refl _) _
    have ngbgc := Nat.ne_of_gt hgc.lt
    replace hk := bstep hk hbA
    replace hgc := hgc.step hbA
    clear hbA hcs
    generalize wk.heap.size = gb at hgb ngbgc ⊢
    generalize wk.alloc (.cells cs 53) = wk at hgb hgc hk ⊢
    refine hK.out _ _ hk (fun _ => ?_)
    clear hK K
    try simp only [Act.put, List.setIfInBounds_toArray, List.set_cons_zero, List.set_cons_succ]
    exact hbN31 w3 a2 m2 c2 i j k b off n c3 a0 len0 cap0 p1 p2 p3 n1 n2 n3 h1 h2 h3 hn hbl r1 r2 r3 e1 e2 e3 hw hP hQ _ hk gb hgb gc hgc ngbgc
set_option maxRecDepth 100000 in
set_option maxHeartbeats 1000000 in
theorem hbN34 (w3 : World) (a2 : Option Addr) (m2 c2 : Nat) (i j k : Int) (b off n c3 : Nat) (a0 : Option Addr) (len0 cap0 : Nat) (p1 p2 p3 : Opr) (n1 n2 n3 : Nat) (h1 : n1 < n) (h2 : n2 < n) (h3 : n3 < n) (hn : n ≤ 64) (hbl : b < w3.heap.size) (r1 : w3.rangeAt b (off + n1 * 7) (orC p1)) (r2 : w3.rangeAt b (off + n2 * 7) (orC p2)) (r3 : w3.rangeAt b (off + n3 * 7) (orC p3)) (e1 : leastV i 0 ((n : Int) - 1) = n1) (e2 : leastV j 0 ((n : Int) - 1) = n2) (e3 : leastV k 0 ((n : Int) - 1) = n3) (hw : IntKind.i64.wrap ((n : Int) - 1) = (n : Int) - 1) {Q : Exit → Act → World → Prop} (hP : ∀ (d : Option Tmp) (v : Value) (c : List PanicEntry) (a : Act) (w : World), Q (.panic c) (a.put d v) w → Q (.panic c) a w) (hQ : ∀ (wk : World) (hk : (fun W : World => Below w3.heap.size w3 W) wk) (ga : Nat) (hga : wk.heap[ga]? = some (.cells (orC p1).toArray 53 (0, 0))) (qga : w3.heap.size ≤ ga) (gb : Nat) (hgb : wk.heap[gb]? = some (.cells (orC p2).toArray 53 (0, 0))) (qgb : w3.heap.size ≤ gb) (gc : Nat) (hgc : wk.heap[gc]? = some (.cells (orC p3).toArray 53 (0, 0))) (qgc : w3.heap.size ≤ gc) (ngagb : ga ≠ gb) (ngagc : ga ≠ gc) (ngbgc : gb ≠ gc), Q .normal { tmps := #[.slice a2 m2 c2, .int .i64 i, .int .i64 j, .int .i64 k, undef, undef, undef, undef, .bool false, .slice (some ⟨b, off, none⟩) n c3, .int .i64 0, .pointer (some ⟨ga, 0, none⟩), .pointer (some ⟨gb, 0, none⟩), .pointer (some ⟨gc, 0, none⟩), undef, undef, undef, .slice a0 len0 cap0, .slice a2 m2 c2, .tuple #[.slice (some ⟨b, off, none⟩) n c3, .int .i64 0], .slice a2 m2 c2, .tuple #[.slice (some ⟨b, off, none⟩) n c3, .int .i64 0], .slice (some ⟨b, off, none⟩) n c3, .int .i64 0, .int .i64 0, .bool false, .bool false, .slice (some ⟨b, off, none⟩) n c3, .int .i64 (n : Int), .bool false, .bool false, undef, .slice (some ⟨b, off, none⟩) n c3, .int .i64 i, .slice (some ⟨b, off, none⟩) n c3, .int .i64 (n : Int), .int .i64 ((n : Int) - 1), .int .i64 (n1 : Int), .pointer (some ⟨b, off + n1 * 7, none⟩), .agg (orC p1).toArray, .slice (some ⟨b, off, none⟩) n c3, .int .i64 j, .slice (some ⟨b, off, none⟩) n c3, .int .i64 (n : Int), .int .i64 ((n : Int) - 1), .int .i64 (n2 : Int), .pointer (some ⟨b, off + n2 * 7, none⟩), .agg (orC p2).toArray, .slice (some ⟨b, off, none⟩) n c3, .int .i64 k, .slice (some ⟨b, off, none⟩) n c3, .int .i64 (n : Int), .int .i64 ((n : Int) - 1), .int .i64 (n3 : Int), .pointer (some ⟨b, off + n3 * 7, none⟩), .agg (orC p3).toArray, undef, undef, undef, undef, undef, undef, undef, undef, undef, undef, undef, undef, undef, undef, undef, undef, undef, undef, undef, undef, undef, undef, undef, undef, undef, undef, undef, undef, undef, undef, undef, undef, undef, undef, undef, undef, undef, undef], defers := [] } wk) (wk : World) (hk : (fun W : World => Below w3.heap.size w3 W) wk)  :
    wpAnyH Try.prog .any hbNR Q (fun W : World => Below w3.heap.size w3 W) 15 #[true, true, true, true, true, false, false, false, true, true, true, true, true, false, false, false, true, true, true, true, true, false, false, false, false, false, false, false, false, false] { tmps := #[.slice a2 m2 c2, .int .i64 i, .int .i64 j, .int .i64 k, undef, undef, undef, undef, .bool false, .slice (some ⟨b, off, none⟩) n c3, .int .i64 0, undef, undef, undef, undef, undef, undef, .slice a0 len0 cap0, .slice a2 m2 c2, .tuple #[.slice (some ⟨b, off, none⟩) n c3, .int .i64 0], .slice a2 m2 c2, .tuple #[.slice (some ⟨b, off, none⟩) n c3, .int .i64 0], .slice (some ⟨b, off, none⟩) n c3, .int .i64 0, .int .i64 0, .bool false, .bool false, .slice (some ⟨b, off, none⟩) n c3, .int .i64 (n : Int), .bool false, .bool false, undef, .slice (some ⟨b, off, none⟩) n c3, .int .i64 i, .slice (some ⟨b, off, none⟩) n c3, .int .i64 (n : Int), .int .i64 ((n : Int) - 1), undef, undef, undef, .slice (some ⟨b, off, none⟩) n c3, .int .i64 j, .slice (some ⟨b, off, none⟩) n c3, .int .i64 (n : Int), .int .i64 ((n : Int) - 1), undef, undef, undef, .slice (some ⟨b, off, none⟩) n c3, .int .i64 k, .slice (some ⟨b, off, none⟩) n c3, .int .i64 (n : Int), .int .i64 ((n : Int) - 1), undef, undef, undef, undef, undef, undef, undef, undef, undef, undef, undef, undef, undef, undef, undef, undef, undef, undef, undef, undef, undef, undef, undef, undef, undef, undef, undef, undef, undef, undef, undef, undef, undef, undef, undef, undef, undef, undef, undef, undef, undef], defers := [] } wk := by
  refine wpAnyH_ready (rs := [5, 24, 25, 26]) (by decide +kernel) (by simp) ?_
  refine (AllReadyH.cons (o := hbNO5) rfl (fun K hK => ?_) (AllReadyH.cons (o := hbNO24) rfl (fun K hK => ?_) (AllReadyH.cons (o := hbNO25) rfl (fun K hK => ?_) (AllReadyH.cons (o := hbNO26) rfl (fun K hK => ?_) AllReadyH.nil))))
  · go_simp
    refine (hb_least i n n1 e1 wk).mono ?_
    rintro e1 w1 ⟨rfl, hw1⟩
    subst hw1
    refine hK.out _ _ hk (fun _ => ?_)
    clear hK K
    try simp only [List.setIfInBounds_toArray, List.set_cons_zero, List.set_cons_succ]
    refine wpAnyH_take (i := 6) (oi := hbNO6) (v := .pointer (some ⟨b, off + n1 * 7, none⟩)) rfl (by kernel_rfl) (by kernel_rfl) (by kernel_rfl) (hP _ _) (Or.inl ⟨by rfl, ?y23⟩) hk ?r23
    case y23 => (intro w hSw; clear hSw; go_simp; first | done | with_reducible rfl)
    simp only [Act.put, List.setIfInBounds_toArray, List.set_cons_zero, List.set_cons_succ]
    refine wpAnyH_take (i := 7) (oi := hbNO7) (v := .agg (orC p1).toArray) rfl (by kernel_rfl) (by kernel_rfl) (by kernel_rfl) (hP _ _) (yieldsIf_load_mid (by rfl) 53 (.tmp 38) rfl b (off + n1 * 7) rfl _ _ (fun W h => nv_range r1 h hbl) Try.underlying53 rfl op_info) hk ?_
    simp only [Act.put, List.setIfInBounds_toArray, List.set_cons_zero, List.set_cons_succ]
    exact hbN26 w3 a2 m2 c2 i j k b off n c3 a0 len0 cap0 p1 p2 p3 n1 n2 n3 h1 h2 h3 hn hbl r1 r2 r3 e1 e2 e3 hw hP hQ _ hk 
  · rw [if_pos (by rfl)]
    refine wp_alloc_of 53 7 rfl op_zero ?_
    intro cs hcs
    have hga := NV.new (T := 53) (N0 := w3.heap.size) (wr := wk) hk.size hcs
    have hbA : Below wk.heap.size wk (wk.alloc (.cells cs 53)) := (Below.refl _ _).alloc (Nat.le_refl _) _
    replace hk := bstep hk hbA
    clear hbA hcs
    generalize wk.heap.size = ga at hga  ⊢
    generalize wk.alloc (.cells cs 53) = wk at hga  hk ⊢
    refine hK.out _ _ hk (fun _ => ?_)
    clear hK K
    try simp only [Act.put, List.setIfInBounds_toArray, List.set_cons_zero, List.set_cons_succ]
    exact hbN30 w3 a2 m2 c2 i j k b off n c3 a0 len0 cap0 p1 p2 p3 n1 n2 n3 h1 h2 h3 hn hbl r1 r2 r3 e1 e2 e3 hw hP hQ _ hk ga hga
  · rw [if_pos (by rfl)]
    refine wp_alloc_of 53 7 rfl op_zero ?_
    intro cs hcs
    have hgb := NV.new (T := 53) (N0 := w3.heap.size) (wr := wk) hk.size hcs
    have hbA : Below wk.heap.size wk (wk.alloc (.cells cs 53)) := (Below.refl _ _).alloc (Nat.le_refl _) _
    replace hk := bstep hk hbA
    clear hbA hcs
    generalize wk.heap.size = gb at hgb  ⊢
    generalize wk.alloc (.cells cs 53) = wk at hgb  hk ⊢
    refine hK.out _ _ hk (fun _ => ?_)
    clear hK K
    try simp only [Act.put, List.setIfInBounds_toArray, List.set_cons_zero, List.set_cons_succ]
    exact hbN32 w3 a2 m2 c2 i j k b off n c3 a0 len0 cap0 p1 p2 p3 n1 n2 n3 h1 h2 h3 hn hbl r1 r2 r3 e1 e2 e3 hw hP hQ _ hk gb hgb
  · rw [if_pos (by rfl)]
    refine wp_alloc_of 53 7 rfl op_zero ?_
    intro cs hcs
    have hgc := NV.new (T := 53) (N0 := w3.heap.size) (wr := wk) hk.size hcs
    have hbA : Below wk.heap.size wk (wk.alloc (.cells cs 53)) := (Below.refl _ _).alloc (Nat.le_refl _) _
    replace hk := bstep hk hbA
    clear hbA hcs
    generalize wk.heap.size = gc at hgc  ⊢
    generalize wk.alloc (.cells cs 53) = wk at hgc  hk ⊢
    refine hK.out _ _ hk (fun _ => ?_)
    clear hK K
    try simp only [Act.put, List.setIfInBounds_toArray, List.set_cons_zero, List.set_cons_succ]
    exact hbN33 w3 a2 m2 c2 i j k b off n c3 a0 len0 cap0 p1 p2 p3 n1 n2 n3 h1 h2 h3 hn hbl r1 r2 r3 e1 e2 e3 hw hP hQ _ hk gc hgc
set_option maxRecDepth 100000 in
set_option maxHeartbeats 1000000 in
theorem hbNAll (w3 : World) (a2 : Option Addr) (m2 c2 : Nat) (i j k : Int) (b off n c3 : Nat) (a0 : Option Addr) (len0 cap0 : Nat) (p1 p2 p3 : Opr) (n1 n2 n3 : Nat) (h1 : n1 < n) (h2 : n2 < n) (h3 : n3 < n) (hn : n ≤ 64) (hbl : b < w3.heap.size) (r1 : w3.rangeAt b (off + n1 * 7) (orC p1)) (r2 : w3.rangeAt b (off + n2 * 7) (orC p2)) (r3 : w3.rangeAt b (off + n3 * 7) (orC p3)) (e1 : leastV i 0 ((n : Int) - 1) = n1) (e2 : leastV j 0 ((n : Int) - 1) = n2) (e3 : leastV k 0 ((n : Int) - 1) = n3) (hw : IntKind.i64.wrap ((n : Int) - 1) = (n : Int) - 1) {Q : Exit → Act → World → Prop} (hP : ∀ (d : Option Tmp) (v : Value) (c : List PanicEntry) (a : Act) (w : World), Q (.panic c) (a.put d v) w → Q (.panic c) a w) (hQ : ∀ (wk : World) (hk : (fun W : World => Below w3.heap.size w3 W) wk) (ga : Nat) (hga : wk.heap[ga]? = some (.cells (orC p1).toArray 53 (0, 0))) (qga : w3.heap.size ≤ ga) (gb : Nat) (hgb : wk.heap[gb]? = some (.cells (orC p2).toArray 53 (0, 0))) (qgb : w3.heap.size ≤ gb) (gc : Nat) (hgc : wk.heap[gc]? = some (.cells (orC p3).toArray 53 (0, 0))) (qgc : w3.heap.size ≤ gc) (ngagb : ga ≠ gb) (ngagc : ga ≠ gc) (ngbgc : gb ≠ gc), Q .normal { tmps := #[.slice a2 m2 c2, .int .i64 i, .int .i64 j, .int .i64 k, undef, undef, undef, undef, .bool false, .slice (some ⟨b, off, none⟩) n c3, .int .i64 0, .pointer (some ⟨ga, 0, none⟩), .pointer (some ⟨gb, 0, none⟩), .pointer (some ⟨gc, 0, none⟩), undef, undef, undef, .slice a0 len0 cap0, .slice a2 m2 c2, .tuple #[.slice (some ⟨b, off, none⟩) n c3, .int .i64 0], .slice a2 m2 c2, .tuple #[.slice (some ⟨b, off, none⟩) n c3, .int .i64 0], .slice (some ⟨b, off, none⟩) n c3, .int .i64 0, .int .i64 0, .bool false, .bool false, .slice (some ⟨b, off, none⟩) n c3, .int .i64 (n : Int), .bool false, .bool false, undef, .slice (some ⟨b, off, none⟩) n c3, .int .i64 i, .slice (some ⟨b, off, none⟩) n c3, .int .i64 (n : Int), .int .i64 ((n : Int) - 1), .int .i64 (n1 : Int), .pointer (some ⟨b, off + n1 * 7, none⟩), .agg (orC p1).toArray, .slice (some ⟨b, off, none⟩) n c3, .int .i64 j, .slice (some ⟨b, off, none⟩) n c3, .int .i64 (n : Int), .int .i64 ((n : Int) - 1), .int .i64 (n2 : Int), .pointer (some ⟨b, off + n2 * 7, none⟩), .agg (orC p2).toArray, .slice (some ⟨b, off, none⟩) n c3, .int .i64 k, .slice (some ⟨b, off, none⟩) n c3, .int .i64 (n : Int), .int .i64 ((n : Int) - 1), .int .i64 (n3 : Int), .pointer (some ⟨b, off + n3 * 7, none⟩), .agg (orC p3).toArray, undef, undef, undef, undef, undef, undef, undef, undef, undef, undef, undef, undef, undef, undef, undef, undef, undef, undef, undef, undef, undef, undef, undef, undef, undef, undef, undef, undef, undef, undef, undef, undef, undef, undef, undef, undef, undef, undef], defers := [] } wk) (wk : World) (hk : (fun W : World => Below w3.heap.size w3 W) wk) :
    wpAnyH Try.prog .any hbNR Q (fun W : World => Below w3.heap.size w3 W) 30 (Array.replicate 30 false) { tmps := #[.slice a2 m2 c2, .int .i64 i, .int .i64 j, .int .i64 k, undef, undef, undef, undef, .bool false, .slice (some ⟨b, off, none⟩) n c3, .int .i64 0, undef, undef, undef, undef, undef, undef, .slice a0 len0 cap0, .slice a2 m2 c2, .tuple #[.slice (some ⟨b, off, none⟩) n c3, .int .i64 0], .slice a2 m2 c2, .tuple #[.slice (some ⟨b, off, none⟩) n c3, .int .i64 0], .slice (some ⟨b, off, none⟩) n c3, .int .i64 0, .int .i64 0, .bool false, .bool false, .slice (some ⟨b, off, none⟩) n c3, .int .i64 (n : Int), .bool false, .bool false, undef, undef, undef, undef, undef, undef, undef, undef, undef, undef, undef, undef, undef, undef, undef, undef, undef, undef, undef, undef, undef, undef, undef, undef, undef, undef, undef, undef, undef, undef, undef, undef, undef, undef, undef, undef, undef, undef, undef, undef, undef, undef, undef, undef, undef, undef, undef, undef, undef, undef, undef, undef, undef, undef, undef, undef, undef, undef, undef, undef, undef, undef, undef], defers := [] } wk := by
  refine wpAnyH_take (i := 0) (oi := hbNO0) (v := .slice (some ⟨b, off, none⟩) n c3) rfl (by kernel_rfl) (by kernel_rfl) (by kernel_rfl) (hP _ _) (Or.inl ⟨by rfl, ?y24⟩) hk ?r24
  case y24 => (intro w hSw; clear hSw; go_simp; first | done | with_reducible rfl)
  simp only [Act.put, List.setIfInBounds_toArray, List.set_cons_zero, List.set_cons_succ]
  refine wpAnyH_take (i := 1) (oi := hbNO1) (v := .int .i64 i) rfl (by kernel_rfl) (by kernel_rfl) (by kernel_rfl) (hP _ _) (Or.inl ⟨by rfl, ?y25⟩) hk ?r25
  case y25 => (intro w hSw; clear hSw; go_simp; first | done | with_reducible rfl)
  simp only [Act.put, List.setIfInBounds_toArray, List.set_cons_zero, List.set_cons_succ]
  refine wpAnyH_take (i := 2) (oi := hbNO2) (v := .slice (some ⟨b, off, none⟩) n c3) rfl (by kernel_rfl) (by kernel_rfl) (by kernel_rfl) (hP _ _) (Or.inl ⟨by rfl, ?y26⟩) hk ?r26
  case y26 => (intro w hSw; clear hSw; go_simp; first | done | with_reducible rfl)
  simp only [Act.put, List.setIfInBounds_toArray, List.set_cons_zero, List.set_cons_succ]
  refine wpAnyH_take (i := 3) (oi := hbNO3) (v := .int .i64 (n : Int)) rfl (by kernel_rfl) (by kernel_rfl) (by kernel_rfl) (hP _ _) (Or.inl ⟨by rfl, ?y27⟩) hk ?r27
  case y27 => (intro w hSw; clear hSw; go_simp; first | done | with_reducible rfl)
  simp only [Act.put, List.setIfInBounds_toArray, List.set_cons_zero, List.set_cons_succ]
  refine wpAnyH_take (i := 4) (oi := hbNO4) (v := .int .i64 ((n : Int) - 1)) rfl (by kernel_rfl) (by kernel_rfl) (by kernel_rfl) (hP _ _) (Or.inl ⟨by rfl, ?y28⟩) hk ?r28
  case y28 => (intro w hSw; clear hSw; go_simp; first | done | with_reducible rfl)
  simp only [Act.put, List.setIfInBounds_toArray, List.set_cons_zero, List.set_cons_succ]
  refine wpAnyH_take (i := 8) (oi := hbNO8) (v := .slice (some ⟨b, off, none⟩) n c3) rfl (by kernel_rfl) (by kernel_rfl) (by kernel_rfl) (hP _ _) (Or.inl ⟨by rfl, ?y29⟩) hk ?r29
  case y29 => (intro w hSw; clear hSw; go_simp; first | done | with_reducible rfl)
  simp only [Act.put, List.setIfInBounds_toArray, List.set_cons_zero, List.set_cons_succ]
  refine wpAnyH_take (i := 9) (oi := hbNO9) (v := .int .i64 j) rfl (by kernel_rfl) (by kernel_rfl) (by kernel_rfl) (hP _ _) (Or.inl ⟨by rfl, ?y30⟩) hk ?r30
  case y30 => (intro w hSw; clear hSw; go_simp; first | done | with_reducible rfl)
  simp only [Act.put, List.setIfInBounds_toArray, List.set_cons_zero, List.set_cons_succ]
  refine wpAnyH_take (i := 10) (oi := hbNO10) (v := .slice (some ⟨b, off, none⟩) n c3) rfl (by kernel_rfl) (by kernel_rfl) (by kernel_rfl) (hP _ _) (Or.inl ⟨by rfl, ?y31⟩) hk ?r31
  case y31 => (intro w hSw; clear hSw; go_simp; first | done | with_reducible rfl)
  simp only [Act.put, List.setIfInBounds_toArray, List.set_cons_zero, List.set_cons_succ]
  refine wpAnyH_take (i := 11) (oi := hbNO11) (v := .int .i64 (n : Int)) rfl (by kernel_rfl) (by kernel_rfl) (by kernel_rfl) (hP _ _) (Or.inl ⟨by rfl, ?y32⟩) hk ?r32
  case y32 => (intro w hSw; clear hSw; go_simp; first | done | with_reducible rfl)
  simp only [Act.put, List.setIfInBounds_toArray, List.set_cons_zero, List.set_cons_succ]
  refine wpAnyH_take (i := 12) (oi := hbNO12) (v := .int .i64 ((n : Int) - 1)) rfl (by kernel_rfl) (by kernel_rfl) (by kernel_rfl) (hP _ _) (Or.inl ⟨by rfl, ?y33⟩) hk ?r33
  case y33 => (intro w hSw; clear hSw; go_simp; first | done | with_reducible rfl)
  simp only [Act.put, List.setIfInBounds_toArray, List.set_cons_zero, List.set_cons_succ]
  refine wpAnyH_take (i := 16) (oi := hbNO16) (v := .slice (some ⟨b, off, none⟩) n c3) rfl (by kernel_rfl) (by kernel_rfl) (by kernel_rfl) (hP _ _) (Or.inl ⟨by rfl, ?y34⟩) hk ?r34
  case y34 => (intro w hSw; clear hSw; go_simp; first | done | with_reducible rfl)
  simp only [Act.put, List.setIfInBounds_toArray, List.set_cons_zero, List.set_cons_succ]
  refine wpAnyH_take (i := 17) (oi := hbNO17) (v := .int .i64 k) rfl (by kernel_rfl) (by kernel_rfl) (by kernel_rfl) (hP _ _) (Or.inl ⟨by rfl, ?y35⟩) hk ?r35
  case y35 => (intro w hSw; clear hSw; go_simp; first | done | with_reducible rfl)
  simp only [Act.put, List.setIfInBounds_toArray, List.set_cons_zero, List.set_cons_succ]
  refine wpAnyH_take (i := 18) (oi := hbNO18) (v := .slice (some ⟨b, off, none⟩) n c3) rfl (by kernel_rfl) (by kernel_rfl) (by kernel_rfl) (hP _ _) (Or.inl ⟨by rfl, ?y36⟩) hk ?r36
  case y36 => (intro w hSw; clear hSw; go_simp; first | done | with_reducible rfl)
  simp only [Act.put, List.setIfInBounds_toArray, List.set_cons_zero, List.set_cons_succ]
  refine wpAnyH_take (i := 19) (oi := hbNO19) (v := .int .i64 (n : Int)) rfl (by kernel_rfl) (by kernel_rfl) (by kernel_rfl) (hP _ _) (Or.inl ⟨by rfl, ?y37⟩) hk ?r37
  case y37 => (intro w hSw; clear hSw; go_simp; first | done | with_reducible rfl)
  simp only [Act.put, List.setIfInBounds_toArray, List.set_cons_zero, List.set_cons_succ]
  refine wpAnyH_take (i := 20) (oi := hbNO20) (v := .int .i64 ((n : Int) - 1)) rfl (by kernel_rfl) (by kernel_rfl) (by kernel_rfl) (hP _ _) (Or.inl ⟨by rfl, ?y38⟩) hk ?r38
  case y38 => (intro w hSw; clear hSw; go_simp; first | done | with_reducible rfl)
  simp only [Act.put, List.setIfInBounds_toArray, List.set_cons_zero, List.set_cons_succ]
  exact hbN34 w3 a2 m2 c2 i j k b off n c3 a0 len0 cap0 p1 p2 p3 n1 n2 n3 h1 h2 h3 hn hbl r1 r2 r3 e1 e2 e3 hw hP hQ _ hk
end Go.Proofs.Ytbapegdmpipllaa
