/- bytes as a text, and bytes.Equal. -/
import Derived.Test.YtdameoejigpnhaaGreatDoorWrp
import Derived.Lib.Strings
import Derived.Laws.BitsAllLaws
import Derived.Laws.IdiomStrings
import Derived.Lib.SlicesS
namespace Go.Proofs.YtdameoejigpnhaaGreatDoor
open Go.RowKit
set_option linter.unusedVariables false

set_option maxRecDepth 100000 in
theorem beq_any (a b : Option Addr) (n m c d : Nat) (la lb : List Int) (w : World) (ha : Bts w a n c la) (hb : Bts w b m d lb) :
    Calls Tryz.prog 50 #[.slice a n c, .slice b m d] w fun e w' => e = .returned (.bool (decide (la = lb))) ∧ w = w' := by
  have h1 := ha.str
  have h2 := hb.str
  have HQ : Hid (((strOf la).toList == (strOf lb).toList) = decide (la = lb)) := by
    show _ = _
    by_cases h : la = lb
    · rw [decide_eq_true h]
      exact (Lib.bytes_beq_iff _ _).2 (by rw [h])
    · rw [decide_eq_false h]
      exact (Lib.bytes_beq_false_iff _ _).2 (fun e => h (strOf_inj ha.byt hb.byt e))
  clear ha hb
  generalize strOf la = sa at h1 HQ
  generalize strOf lb = sb at h2 HQ
  go_enter Tryz.func50, Tryz.ntmps50
  go_wp2
  go_ret
  exact ⟨ret_bool HQ.out, rfl⟩
end Go.Proofs.YtdameoejigpnhaaGreatDoor
