/- From the row's list to what the walks ask. -/
import Derived.Test.YtdameoejigpnhaaGreatDoorWLives
import Derived.Lay
import Derived.Deep.DeepHandedRow
namespace Go.Proofs.YtdameoejigpnhaaGreatDoor
open Go.RowKit
set_option linter.unusedVariables false

set_option maxRecDepth 100000 in
theorem env_at {W : World} {l : List (String × DataW Unit)} (h : laidMet Tryz.prog l W) (hsh : W.ShapedOpen Tryz.prog) (i j k : Nat) (hi : l[i]? = some ("internal/strconv.uint64pow10", Rows.laid_internal_strconv_uint64pow10)) (hj : l[j]? = some ("strconv.ErrRange", Rows.laid_strconv_ErrRange)) (hk : l[k]? = some ("strconv.ErrSyntax", Rows.laid_strconv_ErrSyntax)) : Env W.heap.size W :=
  Env.new (tens_at h i hi) (errs_at h j k hj hk) (Tryz.laysM145.s1_3 W hsh)
set_option maxRecDepth 100000 in
theorem Env.up {w w' : World} (h : Env w.heap.size w) (hb : Below w.heap.size w w') : Env w'.heap.size w' := (h.below hb).low hb.size
set_option maxRecDepth 100000 in
/-- two readings that are one -/
theorem wh_body {T : WX × Nat × Int} {w w' : World} {v : Value} (hb : Byt T.1.b) (ho : w'.ownsRow w.heap.size 5 1 v T.1.b.length (bv T.1.b)) : ∃ a c, v = .slice a T.1.b.length c ∧ Bts w' a T.1.b.length c T.1.b := Bts.of_owns ho hb
set_option maxRecDepth 100000 in
/-- a start that fits: its shape is known, whatever its tables hold -/
theorem witness_row_zip {H : Type} {enc : TypeId × Value → H} {C : Checked} {os : Os} {f : FuncId} {fn : Func} {s : OpenSpec} {conds : List PathCond} {apart : Bool} {laid : List (String × DataW Unit)} (modest : Bool) (w0 : World) (args : Array Value) (hos : w0.os = os)
    (hsh : (w0.forCall (fun _ _ => 0) ⟨#[], args, []⟩).Shaped C.prog)
    (hok : Input.okWideB C.prog (w0.forCall (fun _ _ => 0) ⟨#[], args, []⟩) f ⟨#[], args, []⟩ = true)
    (hrow : s.preRow enc C.prog fn conds apart laid (w0.forCall (fun _ _ => 0) ⟨#[], args, []⟩).memory args) :
    ∃ (w : World) (tape : Tape) (i : Input), w.os = os ∧ (w.forCall tape i).Shaped C.prog ∧ i.vars = [] ∧ Input.okWide C.prog (w.forCall tape i) .any w.heap.size f i ∧
      s.preRow enc C.prog fn conds apart laid (w.forCall tape i).memory i.args ∧ ({ modest := modest } : Assume).holds C.prog (lone (Frame.enter C.prog f i.args .normal) [] (w.forCall tape i)) :=
  ⟨w0, fun _ _ => 0, ⟨#[], args, []⟩, hos, hsh, (Input.okWide_of_okWideB (base := 0) hok).1, (Input.okWide_of_okWideB hok).2, hrow, by
    simp only [Assume.holds]
    exact ⟨by simp, by simp, fun _ => Modest.zero, by simp, by simp⟩⟩
end Go.Proofs.YtdameoejigpnhaaGreatDoor
