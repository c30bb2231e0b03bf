/- What Dec answers of any number. -/
import Derived.Test.YtlodbkjjkhpbaaaDoorDecMath
import Derived.Test.YtlodbkjjkhpbaaaDoorDec
import Derived.Test.YtlodbkjjkhpbaaaDoorTDoor
namespace Go.Proofs.YtlodbkjjkhpbaaaDoor
open Go.RowKit
set_option linter.unusedVariables false

set_option maxRecDepth 100000 in
theorem itoa_all (n : Int) (h0 : -9223372036854775808 ≤ n) (h1 : n ≤ 9223372036854775807) (w : World) (ht : Tens w) :
    Calls Tryd.prog 14 #[.int .i64 n] w fun e w' => e = .returned (.string ⟨(Lib.itoa n).toArray⟩) ∧ Below w.heap.size w w' := by
  refine Calls.mono (Any.strconv_Itoa Tryd.laysM171 n h0 h1 w ht.tab) ?_
  rintro e w' ⟨he, k, os, rfl⟩
  exact ⟨he, below_grow w k os⟩
set_option maxRecDepth 100000 in
theorem dec_any (n : Int) (h0 : -9223372036854775808 ≤ n) (h1 : n ≤ 9223372036854775807) (w : World) (ht : Tens w) :
    Calls Tryd.prog 10 #[.int .i64 n] w fun e w' => e = .returned (.string ⟨(Lib.itoa n).toArray⟩) ∧ Below w.heap.size w w' := by
  go_enter Tryd.func10, Tryd.ntmps10
  go_wp2_with fail
  refine (itoa_all n h0 h1 _ ht).mono ?_
  rintro e w2 ⟨rfl, hb⟩
  generalize hs : (⟨(Lib.itoa n).toArray⟩ : ByteArray) = s
  have HS : Hid (s = ⟨(Lib.itoa n).toArray⟩) := hs.symm
  clear hs
  go_wp2
  go_ret
  exact ⟨ret_str HS.out, hb⟩
end Go.Proofs.YtlodbkjjkhpbaaaDoor
