/- The document's own digits at base 16. -/
import Derived.Test.YtjlclgmbenhakaaDoorChunkMath3
import Derived.Test.YtjlclgmbenhakaaDoorStr
import Derived.Test.YtjlclgmbenhakaaDoorTBase
namespace Go.Proofs.YtjlclgmbenhakaaDoor
open Go.RowKit
set_option linter.unusedVariables false

set_option maxRecDepth 100000 in
theorem sl_dg (k : Nat) (hk : k < 16) (w : World) : (Instr.slice 9 (.string ⟨#[48, 49, 50, 51, 52, 53, 54, 55, 56, 57, 97, 98, 99, 100, 101, 102]⟩) (some (.int .i64 (k : Int))) (some (.int .i64 ((k : Int) + 1))) none).run Tryd.prog w = .ok (.string (strOf [hxD k])) w := by
  have h : k = 0 ∨ k = 1 ∨ k = 2 ∨ k = 3 ∨ k = 4 ∨ k = 5 ∨ k = 6 ∨ k = 7 ∨ k = 8 ∨ k = 9 ∨ k = 10 ∨ k = 11 ∨ k = 12 ∨ k = 13 ∨ k = 14 ∨ k = 15 := by omega
  rcases h with rfl | rfl | rfl | rfl | rfl | rfl | rfl | rfl | rfl | rfl | rfl | rfl | rfl | rfl | rfl | rfl
  all_goals (show _ = _; kernel_rfl)
/-- a text's length, for measures -/
def stSz : Value → Nat | .string s => s.size | _ => 0
set_option maxRecDepth 100000 in
theorem strOf_nil : strOf [] = ⟨#[]⟩ := rfl
set_option maxRecDepth 100000 in
set_option maxHeartbeats 400000 in
theorem rhex_any (N : Nat) (w : World) (hN : N < 4096) :
    Calls Tryd.prog 16 #[.int .i64 (N : Int)] w fun e w' => e = .returned (.string (strOf (hexN N))) ∧ w = w' := by
  go_enter Tryd.func16, Tryd.ntmps16
  generalize hS : Value.string (⟨#[48, 49, 50, 51, 52, 53, 54, 55, 56, 57, 97, 98, 99, 100, 101, 102]⟩ : ByteArray) = SV
  have HSL : Bx (∀ k : Nat, k < 16 → ∀ w, (Instr.slice 9 SV (some (.int .i64 (k : Int))) (some (.int .i64 ((k : Int) + 1))) none).run Tryd.prog w = .ok (.string (strOf [hxD k])) w) := ⟨fun k hk w => by rw [← hS]; exact sl_dg k hk w⟩
  clear hS
  go_wp2
  go_loop [0, 3] (fun nv sv => ∃ (x : Nat) (D : List Int), nv = .int .i64 (x : Int) ∧ sv = .string (strOf D) ∧ x < 4096 ∧ D.length ≤ 4096 - x ∧ ((D = [] ∧ x = N) ∨ (D ≠ [] ∧ hexN N = (if x = 0 then [] else hexN x) ++ D))) (fun nv sv => 2 * (intOf nv).toNat + (if stSz sv = 0 then 1 else 0))
  case atStart => exact ⟨N, [], rfl, by rw [strOf_nil], hN, by simp, .inl ⟨rfl, rfl⟩⟩
  case round =>
    obtain ⟨x, D, rfl, rfl, hx, hDl, hd⟩ := hrel
    have hsz := strOf_size D
    by_cases hgo : 0 < x ∨ D = []
    · obtain ⟨y, hy⟩ : ∃ y, y = x % 16 := ⟨_, rfl⟩
      have HNW : Bx (hexN N = (if x / 16 = 0 then [] else hexN (x / 16)) ++ (hxD (x % 16) :: D)) := ⟨by
        have hx1 : hexN x = (if x / 16 = 0 then [] else hexN (x / 16)) ++ [hxD (x % 16)] := by
          by_cases h16 : x < 16
          · rw [if_pos (by omega), hexN_lt h16, Nat.mod_eq_of_lt h16]; rfl
          · rw [if_neg (by omega), ← hexN_ge h16]
        rcases hd with ⟨h1, h2⟩ | ⟨h1, h2⟩
        · rw [h1, ← h2]; exact hx1
        · have h3 : x ≠ 0 := by rcases hgo with h | h; omega; exact absurd h h1
          rw [h2, if_neg h3, hx1]; simp⟩
      have HST : Bx (strOf (hxD (x % 16) :: D) = strOf [hxD (x % 16)] ++ strOf D) := ⟨strOf_append [_] D⟩
      have hz1 : (strOf [hxD (x % 16)]).size = 1 := rfl
      have hix : ∀ w, (Instr.slice 9 SV (some (.int .i64 ((x : Int) % 16))) (some (.int .i64 ((x : Int) % 16 + 1))) none).run Tryd.prog w = .ok (.string (strOf [hxD (x % 16)])) w := by
        rw [show ((x : Int) % 16) = ((x % 16 : Nat) : Int) from by omega]; exact HSL.out (x % 16) (by omega)
      have HDS : Bx (stSz (.string (strOf D)) = D.length) := ⟨hsz⟩
      have hS2 : (strOf D).size ≤ 4096 := by rw [hsz]; omega
      have HMS : Bx (2 * (x / 16) + 0 < 2 * x + (if stSz (.string (strOf D)) = 0 then 1 else 0)) := ⟨by
        rw [HDS.out]
        rcases hgo with h | h
        · split <;> omega
        · rw [h]; simp; omega⟩
      have HLN : Bx ((hxD (x % 16) :: D).length ≤ 4096 - x / 16) := ⟨by
        rw [List.length_cons]
        rcases hgo with h | h
        · omega
        · rw [h]; simp; omega⟩
      have HEM : Bx (¬ 0 < x → (strOf D).toList.isEmpty = true) := ⟨fun h => by rcases hgo with h1 | h1; exact absurd h1 h; rw [h1, Lib.toList_data]; rfl⟩
      generalize strOf [hxD (x % 16)] = S1 at HST hz1 hix
      generalize strOf D = S at HST HMS HEM hS2
      clear hd hy hsz HDS hDl
      by_cases hx0 : 0 < x
      · have g1 : decide ((x : Int) > 0) = true := by simp; omega
        clear hgo
        go_wp2
        go_round
        case rel => exact ⟨x / 16, hxD (x % 16) :: D, by go_num, by rw [HST.out], by omega, HLN.out, .inr ⟨by simp, HNW.out⟩⟩
        case measure =>
          have h9 := HMS.out
          rw [if_neg (show ¬ stSz (.string (S1 ++ S)) = 0 from by show ¬ (S1 ++ S).size = 0; rw [ByteArray.size_append, hz1]; omega)]
          simp only [intOf] at h9 ⊢
          omega
      · have g1 : decide ((x : Int) > 0) = false := by simp; omega
        have g2 := HEM.out hx0
        have hx00 : x = 0 := by omega
        subst hx00
        have hix2 : ∀ w, (Instr.slice 9 SV (some (.int .i64 0)) (some (.int .i64 1)) none).run Tryd.prog w = .ok (.string S1) w := hix
        clear hgo hix g1 HEM
        go_wp2
        go_round
        case rel => exact ⟨0, hxD (0 % 16) :: D, by go_num, by rw [HST.out], by omega, HLN.out, .inr ⟨by simp, HNW.out⟩⟩
        case measure =>
          have h9 := HMS.out
          rw [if_neg (show ¬ stSz (.string (S1 ++ S)) = 0 from by show ¬ (S1 ++ S).size = 0; rw [ByteArray.size_append, hz1]; omega)]
          simp only [intOf] at h9 ⊢
          omega
    · have hx0 : x = 0 := by omega
      have hD0 : D ≠ [] := fun e => hgo (.inr e)
      have HF : Bx (strOf D = strOf (hexN N)) := ⟨by
        rcases hd with ⟨h1, _⟩ | ⟨_, h2⟩
        · exact absurd h1 hD0
        · rw [h2, if_pos hx0]; rfl⟩
      subst hx0
      have hD1 : 1 ≤ (strOf D).size := by rw [hsz]; cases D with | nil => exact absurd rfl hD0 | cons _ _ => simp
      have hem : (strOf D).toList.isEmpty = false := by
        cases D with
        | nil => exact absurd rfl hD0
        | cons c r => rw [show (strOf (c :: r)).toList = (strOf (c :: r)).data.toList from Lib.toList_data _]; simp [strOf]
      generalize strOf D = S at HF hD1 hem
      clear hd hgo hD0 hsz hDl
      go_wp2
      go_ret
      exact ⟨ret_str HF.out, rfl⟩
end Go.Proofs.YtjlclgmbenhakaaDoor
