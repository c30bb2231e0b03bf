/- What Dec answers of any number. -/
import Derived.Test.YtpfijaojgeceeaaGreatDoorDecMath
import Derived.Test.YtpfijaojgeceeaaGreatDoorDec
import Derived.Test.YtpfijaojgeceeaaGreatDoorTDoor
namespace Go.Proofs.YtpfijaojgeceeaaGreatDoor
open Go.RowKit
set_option linter.unusedVariables false

set_option maxRecDepth 100000 in
theorem itoa_all (n : Int) (h0 : -9223372036854775808 ≤ n) (h1 : n ≤ 9223372036854775807) (w : World) (ht : Tens w) :
    Calls Tryz.prog 55 #[.int .i64 n] w fun e w' => e = .returned (.string ⟨(Lib.itoa n).toArray⟩) ∧ Below w.heap.size w w' := by
  refine Calls.mono (Any.strconv_Itoa Tryz.laysM171 n h0 h1 w ht.tab) ?_
  rintro e w' ⟨he, k, os, rfl⟩
  exact ⟨he, below_grow w k os⟩
set_option maxRecDepth 100000 in
theorem dec_any (n : Int) (h0 : -9223372036854775808 ≤ n) (h1 : n ≤ 9223372036854775807) (w : World) (ht : Tens w) :
    Calls Tryz.prog 42 #[.int .i64 n] w fun e w' => e = .returned (.string ⟨(Lib.itoa n).toArray⟩) ∧ Below w.heap.size w w' := by
  go_enter Tryz.func42, Tryz.ntmps42
  go_wp2_with fail
  refine (itoa_all n h0 h1 _ ht).mono ?_
  rintro e w2 ⟨rfl, hb⟩
  generalize hs : (⟨(Lib.itoa n).toArray⟩ : ByteArray) = s
  have HS : Hid (s = ⟨(Lib.itoa n).toArray⟩) := hs.symm
  clear hs
  go_wp2
  go_ret
  exact ⟨ret_str HS.out, hb⟩
end Go.Proofs.YtpfijaojgeceeaaGreatDoor
