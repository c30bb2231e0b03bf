/- What Dec answers of small numbers; that 'lives' answers true. -/
import Derived.Test.YtakploildkeofabDoorShelf
import Derived.Test.YtakploildkeofabDoorName
namespace Go.Proofs.YtakploildkeofabDoor
open Go.RowKit
set_option linter.unusedVariables false

theorem itoa_small (i : Nat) (hi : i < 100) (w : World) :
    Calls Tryd.prog 6 #[.int .i64 i] w fun e w' => e = .returned (.string ⟨(Lib.decDigits i).toArray⟩) ∧ w' = w := Any.strconv_Itoa_small Tryd.lays171 i hi w
theorem dec_small (i : Nat) (hi : i < 100) (w : World) :
    Calls Tryd.prog 4 #[.int .i64 i] w fun e w' => e = .returned (.string ⟨(Lib.decDigits i).toArray⟩) ∧ w' = w := by
  go_enter Tryd.func4, Tryd.ntmps4
  go_wp2_with fail
  refine (itoa_small i hi _).mono ?_
  rintro e w' ⟨rfl, rfl⟩
  go_wp2
  go_ret
  exact ⟨rfl, rfl⟩

theorem lives_any (w : World) : Calls Tryd.prog 5 #[] w fun e w' => e = .returned (.bool true) ∧ w' = w := by
  go_enter Tryd.func5, Tryd.ntmps5
  go_wp2_with fail
  refine (dec_small 7 (by decide) _).mono ?_
  rintro e w' ⟨rfl, rfl⟩
  rw [show Lib.decDigits 7 = [55] from Lib.decDigits_one (by decide)]
  go_wp2_with fail
  refine (name_any _ _ (by decide)).mono ?_
  rintro e w' ⟨rfl, rfl⟩
  rw [show nameB ⟨#[97]⟩ = true by decide]
  go_wp2
  go_ret
  exact ⟨rfl, rfl⟩
end Go.Proofs.YtakploildkeofabDoor
