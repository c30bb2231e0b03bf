/- What Dec answers of any number. -/
import Derived.Test.YtakploildkeofaaDoorDecMath
import Derived.Test.YtakploildkeofaaDoorDec
import Derived.Test.YtakploildkeofaaDoorTDoor
namespace Go.Proofs.YtakploildkeofaaDoor
open Go.RowKit
set_option linter.unusedVariables false

theorem dec_any (n : Int) (h0 : -9223372036854775808 ≤ n) (h1 : n ≤ 9223372036854775807) (w : World) (ht : Tens w) :
    Calls Tryd.prog 20 #[.int .i64 n] w fun e w' => e = .returned (.string ⟨(Lib.itoa n).toArray⟩) ∧ Below w.heap.size w w' := by
  have htab := ht.tab
  have HT : Hid (Lib.TabIs Tryd.prog w "internal/strconv.uint64pow10" .u64 Lib.pow10Tab) := htab
  clear htab
  go_enter Tryd.func20, Tryd.ntmps20
  go_wp2_with fail
  refine (Tryd.strconv_Itoa n h0 h1 _ HT.out).mono ?_
  rintro e w' ⟨rfl, k, os, rfl⟩
  have hb := below_grow w k os
  generalize Sort.grow (w.drewN k) os = w2 at hb
  generalize hs : (⟨(Lib.itoa n).toArray⟩ : ByteArray) = s
  have HS : Hid (s = ⟨(Lib.itoa n).toArray⟩) := hs.symm
  clear hs
  go_wp2
  go_ret
  exact ⟨ret_str HS.out, hb⟩
end Go.Proofs.YtakploildkeofaaDoor
