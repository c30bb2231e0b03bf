/- What Hex answers, the program's and the document's. -/
import Derived.Test.YtpfijaojgeceeaaDoorTBase
import Derived.Test.YtpfijaojgeceeaaDoorStr
import Derived.Test.YtpfijaojgeceeaaDoorCut
import Derived.Laws.BitsAllLaws
import Derived.Laws.IdiomStrings
namespace Go.Proofs.YtpfijaojgeceeaaDoor
open Go.RowKit
set_option linter.unusedVariables false

/-- the sixteen letters -/
def hexS : ByteArray := ⟨#[48, 49, 50, 51, 52, 53, 54, 55, 56, 57, 97, 98, 99, 100, 101, 102]⟩
/-- the letter of a number below sixteen -/
def hx (n : Nat) : Int := sb hexS n
/-- the letters of bytes -/
def hexL (b : List Int) : List Int := b.flatMap fun c => [hx (c.toNat / 16), hx (c.toNat % 16)]
set_option maxRecDepth 100000 in
theorem hx_byt (n : Nat) : 0 ≤ hx n ∧ hx n ≤ 255 := sb_byt _ _
set_option maxRecDepth 100000 in
theorem hexL_append (a b : List Int) : hexL (a ++ b) = hexL a ++ hexL b := by simp [hexL]
set_option maxRecDepth 100000 in
theorem hexL_length (b : List Int) : (hexL b).length = 2 * b.length := by
  induction b with
  | nil => rfl
  | cons c b ih => rw [show c :: b = [c] ++ b from rfl, hexL_append, List.length_append, ih]; simp [hexL]; omega
set_option maxRecDepth 100000 in
theorem hexL_byt (b : List Int) : Byt (hexL b) := by
  intro c hc
  simp only [hexL, List.mem_flatMap] at hc
  obtain ⟨d, _, h⟩ := hc
  simp at h
  rcases h with rfl | rfl <;> exact hx_byt _
set_option maxRecDepth 100000 in
theorem hexL_more (b : List Int) (k : Nat) (h : k < b.length) : hexL (b.take (k + 1)) = hexL (b.take k) ++ [hx ((b.getD k 0).toNat / 16), hx ((b.getD k 0).toNat % 16)] := by
  rw [take_succ_getD b k h, hexL_append]; simp [hexL]
set_option maxRecDepth 100000 in
theorem hex_piece : ∀ n : Fin 16, hexS.extract n.val (n.val + 1) = strOf [hx n.val] := by decide +kernel
set_option maxRecDepth 100000 in
theorem letter_any (n : Nat) (w : World) (h : n < 16) : Calls Tryd.prog 34 #[.int .i64 n] w fun e w' => e = .returned (.string (strOf [hx n])) ∧ w' = w := by
  have hp := hex_piece ⟨n, h⟩
  have HP : Hid (hexS.extract n (n + 1) = strOf [hx n]) := hp
  clear hp
  have h0 : (n : Int) + 1 ≤ 16 := by omega
  go_enter Tryd.func34, Tryd.ntmps34
  go_wp2
  go_ret
  exact ⟨ret_str HP.out, rfl⟩
end Go.Proofs.YtpfijaojgeceeaaDoor
