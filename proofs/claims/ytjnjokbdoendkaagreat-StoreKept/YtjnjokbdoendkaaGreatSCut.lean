/- What the document's Cut answers of a text: some text of at most so many bytes. -/
import Derived.Test.YtjnjokbdoendkaaGreatTBase
namespace Go.Proofs.YtjnjokbdoendkaaGreat
open Go.RowKit
set_option linter.unusedVariables false

set_option maxRecDepth 100000 in
theorem scut_any (s : ByteArray) (n : Nat) (w : World) (hs : s.size ≤ 9223372036854775807) :
    Calls Tryz.prog 8 #[.string s, .int .i64 n] w fun e w' => (∃ t : ByteArray, e = .returned (.string t) ∧ t.size ≤ n) ∧ w' = w := by
  by_cases h : n < s.size
  · have hi : (n : Int) < (s.size : Int) := by omega
    have hi2 : (n : Int) ≤ (s.size : Int) := by omega
    have HZ : Hid ((s.extract 0 n).size ≤ n) := by
      show _ ≤ _; rw [Lib.size_eq, Lib.extract_data, List.length_take]; omega
    go_enter Tryz.func8, Tryz.ntmps8
    go_wp2
    go_ret
    exact ⟨⟨_, rfl, HZ.out⟩, rfl⟩
  · have hi : ¬ (n : Int) < (s.size : Int) := by omega
    have HZ : Hid (s.size ≤ n) := by show _ ≤ _; omega
    go_enter Tryz.func8, Tryz.ntmps8
    go_wp2
    go_ret
    exact ⟨⟨_, rfl, HZ.out⟩, rfl⟩
end Go.Proofs.YtjnjokbdoendkaaGreat
