/- What merkle's Path answers. -/
import Derived.Test.YtaphbenkkicbhabDoorPathIn
namespace Go.Proofs.YtaphbenkkicbhabDoor
open Go.RowKit
set_option linter.unusedVariables false

/-- the path of whatever place, and the error -/
def pV (L : List (List Int)) (i : Int) (x : Int) : List (List Int) := if 0 ≤ i ∧ i < (L.length : Int) then pathL L i.toNat x else []
def pE (n : Nat) (i : Int) : Int := if 0 ≤ i ∧ i < (n : Int) then 0 else 2
theorem pV_dg {L : List (List Int)} (h : Dgl L) (i x : Int) : Dgl (pV L i x) := by
  unfold pV; split
  · exact pathL_dg L.length L _ x (Nat.le_refl _) h
  · exact Dgl.nil
theorem pV_len (L : List (List Int)) (i x : Int) : (pV L i x).length ≤ L.length := by
  unfold pV; split
  · exact pathL_len L.length L _ x (Nat.le_refl _)
  · exact Nat.zero_le _

set_option maxRecDepth 100000 in
theorem path_any (a : Option Addr) (len cap : Nat) (L : List (List Int)) (i x : Int) (w : World) (hL : Dgs w a len cap L) (htab : Tab w) (hbd : len ≤ 1000000) :
    Calls Tryd.prog 7 #[.slice a len cap, .int .i64 i, .int .i64 x] w fun e w' => ∃ v, e = .returned (.tuple #[v, .int .i64 (pE len i)]) ∧ w'.ownsRow w.heap.size 26 32 v (pV L i x).length (bv (pV L i x).flatten) ∧ Below w.heap.size w w' := by
  have hlen := hL.len_eq
  by_cases hin : 0 ≤ i ∧ i < (len : Int)
  · have HV : Bx (pV L i x = pathL L i.toNat x) := ⟨by unfold pV; rw [hlen, if_pos hin]⟩
    have HE : Bx (pE len i = 0) := ⟨if_pos hin⟩
    rw [HE.out, HV.out]
    obtain ⟨j, rfl⟩ : ∃ j : Nat, i = (j : Int) := ⟨i.toNat, by omega⟩
    have h1 : decide ((j : Int) < 0) = false := by simp
    have h2 : decide (len ≤ j) = false := by simp; omega
    have HP : Bx (Calls Tryd.prog 16 #[.slice a len cap, .int .i64 j, .int .i64 x] w fun e w' => ∃ v, e = .returned v ∧ w'.ownsRow w.heap.size 26 32 v (pathL L j x).length (bv (pathL L j x).flatten) ∧ Below w.heap.size w w') := ⟨pathin_any len a len cap L j x w (Nat.le_refl _) hL htab hbd (by omega)⟩
    have ht : ((j : Int)).toNat = j := by omega
    rw [ht]
    clear hL htab hlen HV HE hin ht
    go_enter Tryd.func7, Tryd.ntmps7
    go_wp2_with fail
    refine HP.out.mono ?_
    rintro e w1 ⟨v, rfl, ho, hb⟩
    clear HP
    go_wp2
    go_ret2
    exact ⟨v, rfl, ho, hb⟩
  · have HV : Bx (pV L i x = []) := ⟨by unfold pV; rw [hlen, if_neg hin]⟩
    have HE : Bx (pE len i = 2) := ⟨if_neg hin⟩
    rw [HE.out, HV.out]
    have hon := World.ownsRow_nil w w.heap.size 26 32
    by_cases h0 : i < 0
    · have h1 : decide (i < 0) = true := by simpa using h0
      clear hL htab hlen HV HE hin
      go_enter Tryd.func7, Tryd.ntmps7
      go_wp2
      go_ret2
      exact ⟨_, rfl, hon, Below.refl _ _⟩
    · have h1 : decide (i < 0) = false := by simpa using h0
      have h2 : decide (i ≥ (len : Int)) = true := by simp; omega
      clear hL htab hlen HV HE hin
      go_enter Tryd.func7, Tryd.ntmps7
      go_wp2
      go_ret2
      exact ⟨_, rfl, hon, Below.refl _ _⟩
end Go.Proofs.YtaphbenkkicbhabDoor
