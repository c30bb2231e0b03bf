/- From the row's list to what the walks ask. -/
import Derived.Test.YtpfijaojgeceeaaGreatDoorAuaf
import Derived.Test.YtpfijaojgeceeaaGreatDoorWZip
import Derived.Lay
import Derived.Deep.DeepHandedRow
namespace Go.Proofs.YtpfijaojgeceeaaGreatDoor
open Go.RowKit
set_option linter.unusedVariables false

set_option maxRecDepth 100000 in
theorem env_at {W : World} {l : List (String × DataW Unit)} (h : laidMet Tryz.prog l W) (hsh : W.ShapedOpen Tryz.prog) (i j k : Nat) (hi : l[i]? = some ("internal/strconv.uint64pow10", Rows.laid_internal_strconv_uint64pow10)) (hj : l[j]? = some ("strconv.ErrRange", Rows.laid_strconv_ErrRange)) (hk : l[k]? = some ("strconv.ErrSyntax", Rows.laid_strconv_ErrSyntax)) : Env W.heap.size W :=
  Env.new (tens_at h i hi) (errs_at h j k hj hk) (Tryz.laysM145.s1_3 W hsh)
set_option maxRecDepth 100000 in
theorem Env.up {w w' : World} (h : Env w.heap.size w) (hb : Below w.heap.size w w') : Env w'.heap.size w' := (h.below hb).low hb.size
set_option maxRecDepth 100000 in
/-- two readings that are one -/
theorem wh_body {T : WX × Nat × Int} {w w' : World} {v : Value} (hb : Byt T.1.b) (ho : w'.ownsRow w.heap.size 5 1 v T.1.b.length (bv T.1.b)) : ∃ a c, v = .slice a T.1.b.length c ∧ Bts w' a T.1.b.length c T.1.b := Bts.of_owns ho hb
end Go.Proofs.YtpfijaojgeceeaaGreatDoor
