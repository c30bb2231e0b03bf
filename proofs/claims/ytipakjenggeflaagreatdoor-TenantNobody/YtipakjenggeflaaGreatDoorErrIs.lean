/- errors.Is of two numbers that are errors. -/
import Derived.Test.YtipakjenggeflaaGreatDoorPkaa
import Derived.LaidEql
import Derived.Stop.Asserts
namespace Go.Proofs.YtipakjenggeflaaGreatDoor
open Go.RowKit Go.Extern.Stop Go.Stop Go.Extern

set_option maxRecDepth 100000 in
theorem run_eql_iface_int {P : Program} {ti te : TypeId} {ms : Array (String × TypeId)} {i : TypeInfo} (hi : P.underlying ti = some (.interface ms)) (hp : P.underlying te = some (.int .i64)) (hinfo : P.info? te = some i) (hcomp : i.comparable = true) (a b : Int) (w : World) :
    (binOp .eql ti (.iface te (.int .i64 a)) (.iface te (.int .i64 b))).run P w = .ok (.bool (decide (a = b))) w := by
  have h : ∀ d : Nat, (Op.equalIn (d + 2) ti (.iface te (.int .i64 a)) (.iface te (.int .i64 b))).run P w = .ok (decide (a = b)) w := fun d => by
    simp [Op.equalIn, run_underlying hi, run_underlying hp, typeInfo, hinfo, hcomp]
    by_cases e : a = b <;> simp [e]
  simp only [binOp]
  simp [Op.equal, Op.maxDepth, h 9998]
set_option maxRecDepth 100000 in
theorem eiTypeOf (v : Value) (w : World) : (callFunc 234 #[.iface 28 v]).run Tryz.prog w = .ok (.value (.iface 390 (.agg #[.pointer (some ⟨9, 28, none⟩)]))) w := by kernel_rfl
set_option maxRecDepth 100000 in
theorem eiComparable (w : World) : (callFunc 370 #[.agg #[.pointer (some ⟨9, 28, none⟩)]]).run Tryz.prog w = .ok (.value (.bool true)) w := by kernel_rfl
set_option maxRecDepth 100000 in
theorem eiMethod (v : Value) (w : World) : (Go.method 586 390 v "Comparable").run Tryz.prog w = .ok (370, v) w := by kernel_rfl
set_option maxRecDepth 100000 in
theorem eiComp : (Tryz.prog.info? 28).map (·.comparable) = some true := by kernel_rfl
set_option maxRecDepth 100000 in
theorem eiNoIs (v : Value) (xT : TypeId) (w : World) : (Instr.typeAssert (.iface 28 v) xT 392 true).run Tryz.prog w = .ok (.tuple #[.nilIface, .bool false]) w := run_typeAssert_lacksB Tryz.underlying392 (by kernel_rfl) (by kernel_rfl) v xT w
set_option maxRecDepth 100000 in
theorem eiNoUnwrap (v : Value) (xT : TypeId) (w : World) : (Instr.typeAssert (.iface 28 v) xT 395 true).run Tryz.prog w = .ok (.tuple #[.nilIface, .bool false]) w := run_typeAssert_lacksB Tryz.underlying395 (by kernel_rfl) (by kernel_rfl) v xT w
set_option maxRecDepth 100000 in
theorem eiNoUnwraps (v : Value) (xT : TypeId) (w : World) : (Instr.typeAssert (.iface 28 v) xT 397 true).run Tryz.prog w = .ok (.tuple #[.nilIface, .bool false]) w := run_typeAssert_lacksB Tryz.underlying397 (by kernel_rfl) (by kernel_rfl) v xT w
set_option maxHeartbeats 4000000 in
set_option maxRecDepth 100000 in
theorem errorsis_any (a b : Int) (w : World) :
    Calls Tryz.prog 169 #[.iface 28 (.int .i64 a), .iface 28 (.int .i64 b)] w fun e w' => e = .returned (.bool (decide (a = b))) ∧ w' = w := by
  obtain ⟨i, hi, hcmp⟩ := Option.map_eq_some_iff.1 eiComp
  have tT := eiTypeOf
  have cT := eiComparable
  have mR := eiMethod
  have nE := eiNoIs
  have uE := eiNoUnwrap
  have vE := eiNoUnwraps
  have heq := run_eql_iface_int (P := Tryz.prog) Tryz.underlying265 Tryz.underlying28 hi hcmp a b w
  obtain ⟨q, hq⟩ : ∃ q, decide (a = b) = q := ⟨_, rfl⟩
  rw [hq] at heq ⊢
  clear hq
  cases q with
  | true =>
    go_enter Tryz.func169, Tryz.ntmps169
    go_wp2
    refine wp_loop_rounds 1 ?_
    rw [rounds_succ]
    go_wp2
    go_ret
    exact ⟨rfl, rfl⟩
  | false =>
    go_enter Tryz.func169, Tryz.ntmps169
    go_wp2
    refine wp_loop_rounds 1 ?_
    rw [rounds_succ]
    go_wp2
    go_ret
    exact ⟨rfl, rfl⟩
end Go.Proofs.YtipakjenggeflaaGreatDoor
