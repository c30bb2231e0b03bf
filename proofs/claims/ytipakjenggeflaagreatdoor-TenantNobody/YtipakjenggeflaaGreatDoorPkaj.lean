/- The keys under which a tenant's store has things. No walk. What the document's Dec answers of any number. -/
import Derived.Test.YtipakjenggeflaaGreatDoorPkai
import Derived.Test.YtipakjenggeflaaGreatDoorPkab
import Derived.Test.YtipakjenggeflaaGreatDoorDecMath
import Derived.Test.YtipakjenggeflaaGreatDoorPkaa
import Derived.Laws.BitsAllLaws
import Derived.Laws.IdiomStrings
import Derived.Lib.ItoaLen
namespace Go.Proofs.YtipakjenggeflaaGreatDoor
open Go.RowKit
set_option linter.unusedVariables false
open Go.Lib (decDigits)

/-- a key of a kind: a letter, a stroke, and what is named -/
def kP (c : UInt8) (s : ByteArray) : ByteArray := ⟨#[c, 47]⟩ ++ s
/-- a job's number in two digits -/
def d1 (i : Nat) : ByteArray := ⟨(decDigits i).toArray⟩
def d2 (i : Nat) : ByteArray := d1 (i / 10) ++ d1 (i % 10)
set_option maxRecDepth 100000 in
theorem kP_data (c : UInt8) (s : ByteArray) : (kP c s).data.toList = c :: 47 :: s.data.toList := by simp [kP]
set_option maxRecDepth 100000 in
theorem kP_size (c : UInt8) (s : ByteArray) : (kP c s).size = 2 + s.size := by
  rw [Lib.size_eq, kP_data, Lib.size_eq s]; simp; omega
/-- which letter is which kind -/
abbrev cE : UInt8 := 101
abbrev cH : UInt8 := 104
abbrev cJ : UInt8 := 106
abbrev cS : UInt8 := 115
abbrev cU : UInt8 := 117
end Go.Proofs.YtipakjenggeflaaGreatDoor
namespace Go.Proofs.YtipakjenggeflaaGreatDoor
open Go.RowKit
set_option linter.unusedVariables false

/-- a number's text -/
def decS (n : Int) : ByteArray := ⟨(Lib.itoa n).toArray⟩
set_option maxRecDepth 100000 in
theorem decS_size {n : Int} (h0 : -9223372036854775808 ≤ n) (h1 : n ≤ 9223372036854775807) : (decS n).size ≤ 21 := by
  rw [Lib.size_eq]; exact Lib.itoa_length_le n h0 h1
end Go.Proofs.YtipakjenggeflaaGreatDoor
