/- That 'is anything minted at all' is answered yes. -/
import Derived.Test.YtdoedkgidcoibaaDoorMint
namespace Go.Proofs.YtdoedkgidcoibaaDoor
open Go.RowKit
set_option linter.unusedVariables false

theorem lives_tok : mintE ⟨#[97]⟩ 5 = 0 ∧ (mintS [] ⟨#[97]⟩ 5).size = 68 := by
  have hok : mOk ⟨#[97]⟩ 5 = true := by decide
  obtain ⟨h1, h2⟩ := mint_yes (k := []) hok
  refine ⟨h2, ?_⟩
  rw [h1]
  unfold tokB
  rw [form_size (mkS_len _ _ _), claim_size]
  have e : decS 5 = strOf [hx 5] := decS_small 5 (by decide)
  rw [e, strOf_size]
  rfl
set_option maxRecDepth 100000 in
theorem lives_any (w : World) (hl : Lay w) :
    Calls Tryd.prog 15 #[] w fun e w' => e = .returned (.bool true) ∧ Below w.heap.size w w' := by
  obtain ⟨e1, e2⟩ := lives_tok
  go_enter Tryd.func15, Tryd.ntmps15
  go_wp2_with fail
  refine (mint_any none 0 0 [] ⟨#[97]⟩ 5 _ (Bts.none rfl) (by decide) (by decide) (by decide) (by decide) hl).mono ?_
  rintro e w1 ⟨rfl, hb1⟩
  rw [e1]
  generalize mintS [] ⟨#[97]⟩ 5 = S at e2
  have g1 : ((S.size : Int) == 68) = true := by simp; omega
  clear e1 e2
  go_wp2_with fail
  go_ret
  exact ⟨rfl, hb1⟩
end Go.Proofs.YtdoedkgidcoibaaDoor
