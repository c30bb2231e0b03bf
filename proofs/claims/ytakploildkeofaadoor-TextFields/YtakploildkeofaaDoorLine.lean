/- What Line answers, the program's and the document's. -/
import Derived.Test.YtakploildkeofaaDoorTBase
import Derived.Test.YtakploildkeofaaDoorShelfIndex
namespace Go.Proofs.YtakploildkeofaaDoor
open Go.RowKit
set_option linter.unusedVariables false

def lix (s : ByteArray) : Int := Lib.indexByte s.data.toList 10
def lnA (s : ByteArray) : ByteArray := if 0 ≤ lix s then s.extract 0 (lix s).toNat else s
def lnB (s : ByteArray) : ByteArray := if 0 ≤ lix s then s.extract ((lix s).toNat + 1) s.size else ⟨#[]⟩
def LineP (s : ByteArray) (e : Ending) : Prop := e = .returned (.tuple #[.string (lnA s), .string (lnB s), .bool (decide (0 ≤ lix s))])
theorem ln_none {s : ByteArray} {e : Ending} (h : lix s = -1) (he : e = .returned (.tuple #[.string s, .string ⟨#[]⟩, .bool false])) : LineP s e := by
  unfold LineP lnA lnB; rw [he, h]; rfl
theorem ln_some {s : ByteArray} {e : Ending} {k : Nat} (h : lix s = (k : Int)) (he : e = .returned (.tuple #[.string (s.extract 0 k), .string (s.extract (k + 1) s.size), .bool true])) : LineP s e := by
  unfold LineP lnA lnB
  rw [he, h, if_pos (by omega), if_pos (by omega), decide_eq_true (by omega)]; rfl
theorem idx_none (c : UInt8) : ∀ l : List UInt8, (∀ j, j < l.length → l.getD j 0 ≠ c) → Lib.indexByte l c = -1
  | [], _ => rfl
  | b :: l, h => by
    have h0 : ¬ b = c := h 0 (by simp)
    have ih := idx_none c l (fun j hj => h (j + 1) (by simpa using hj))
    unfold Lib.indexByte
    simp [h0, ih]
theorem idx_some (c : UInt8) : ∀ (l : List UInt8) (k : Nat), k < l.length → (∀ j, j < k → l.getD j 0 ≠ c) → l.getD k 0 = c → Lib.indexByte l c = (k : Int)
  | [], k, hk, _, _ => by simp at hk
  | b :: l, 0, _, _, h => by
    have h0 : b = c := h
    unfold Lib.indexByte
    simp [h0]
  | b :: l, k + 1, hk, hj, h => by
    have h0 : ¬ b = c := hj 0 (by omega)
    have ih := idx_some c l k (by simpa using hk) (fun j hj' => hj (j + 1) (by omega)) h
    unfold Lib.indexByte
    rw [ih]
    have e1 : (b == c) = false := by simpa using h0
    have e2 : (((k : Int)) == -1) = false := by simp
    rw [e1, e2]
    simp
theorem idx_room (c : UInt8) : ∀ (l : List UInt8), Lib.indexByte l c = -1 ∨ ∃ k : Nat, Lib.indexByte l c = (k : Int) ∧ k < l.length
  | [] => .inl rfl
  | b :: l => by
    unfold Lib.indexByte
    by_cases h : (b == c) = true
    · rw [if_pos h]; exact .inr ⟨0, rfl, by simp⟩
    · rw [if_neg h]
      rcases idx_room c l with e | ⟨k, e, hk⟩
      · rw [e]; exact .inl rfl
      · have e2 : (((k : Int)) == -1) = false := by simp
        rw [e, e2]
        exact .inr ⟨k + 1, by simp, by simpa using hk⟩
theorem ten_iff (s : ByteArray) (j : Nat) : s.data.toList.getD j 0 = 10 ↔ sb s j = 10 := by
  unfold sb
  constructor
  · intro h; rw [h]; rfl
  · intro h
    apply UInt8.toNat_inj.1
    have e : (10 : UInt8).toNat = 10 := rfl
    rw [e]; omega
theorem lix_none {s : ByteArray} (h : ∀ j, j < s.size → ¬ sb s j = 10) : lix s = -1 :=
  idx_none 10 _ (fun j hj e => h j (by rw [Lib.size_eq]; exact hj) ((ten_iff s j).1 e))
theorem lix_some {s : ByteArray} {k : Nat} (hk : k < s.size) (h : ∀ j, j < k → ¬ sb s j = 10) (hc : sb s k = 10) : lix s = (k : Int) :=
  idx_some 10 _ k (by rw [← Lib.size_eq]; exact hk) (fun j hj e => h j hj ((ten_iff s j).1 e)) ((ten_iff s k).2 hc)
set_option maxHeartbeats 400000 in
theorem cutin_any (s : ByteArray) (w : World) (hs : s.size ≤ 1099511627776) :
    Calls Tryd.prog 40 #[.string s, .string ⟨#[10]⟩] w fun e w' => LineP s e ∧ ∃ q, w' = w.drewN q := by
  have C : Hid (∀ w', Calls Tryd.prog 48 #[.string s, .string ⟨#[10]⟩] w' fun e w'' => e = .returned (.int .i64 (lix s)) ∧ w'' = w') := fun w' => Any.stringslite_Index_one Tryd.lays219 s 10 w'
  rcases idx_room 10 s.data.toList with h | ⟨k, h, hk⟩
  · have HX : Hid (lix s = -1) := h
    rw [HX.out] at C
    clear h
    go_enter Tryd.func40, Tryd.ntmps40
    go_wp2_with fail
    refine (C.out _).mono ?_
    rintro e w' ⟨rfl, rfl⟩
    go_wp2_with fail
    go_ret3
    exact ⟨ln_none HX.out rfl, 0, rfl⟩
  · have HX : Hid (lix s = (k : Int)) := h
    rw [HX.out] at C
    have hk2 : k < s.size := by rw [Lib.size_eq]; exact hk
    have k1 : (0 : Int) ≤ (k : Int) := by omega
    have k2 : (k : Int) ≤ (s.size : Int) := by omega
    have k3 : (k : Int) + 1 ≤ (s.size : Int) := by omega
    clear h hk
    go_enter Tryd.func40, Tryd.ntmps40
    go_wp2_with fail
    refine (C.out _).mono ?_
    rintro e w' ⟨rfl, rfl⟩
    go_wp2_with fail
    go_quiet (fail)
    go_wp2_with fail
    go_ret3
    exact ⟨ln_some HX.out rfl, _, rfl⟩
theorem cutout_any (s : ByteArray) (w : World) (hs : s.size ≤ 1099511627776) :
    Calls Tryd.prog 33 #[.string s, .string ⟨#[10]⟩] w fun e w' => LineP s e ∧ ∃ q, w' = w.drewN q := by
  go_enter Tryd.func33, Tryd.ntmps33
  go_wp2_with fail
  refine (cutin_any s _ hs).mono ?_
  rintro e w' ⟨he, q, rfl⟩
  have HE : Hid (LineP s (.returned (.tuple #[.string (lnA s), .string (lnB s), .bool (decide (0 ≤ lix s))]))) := rfl
  unfold LineP at he
  subst he
  generalize lnA s = A at HE ⊢
  generalize lnB s = B at HE ⊢
  generalize decide (0 ≤ lix s) = C at HE ⊢
  go_wp2_with fail
  go_ret3
  exact ⟨HE.out, q, rfl⟩
theorem line_any (s : ByteArray) (w : World) (hs : s.size ≤ 1099511627776) :
    Calls Tryd.prog 25 #[.string s] w fun e w' => LineP s e ∧ ∃ q, w' = w.drewN q := by
  go_enter Tryd.func25, Tryd.ntmps25
  go_wp2_with fail
  refine (cutout_any s _ hs).mono ?_
  rintro e w' ⟨he, q, rfl⟩
  have HE : Hid (LineP s (.returned (.tuple #[.string (lnA s), .string (lnB s), .bool (decide (0 ≤ lix s))]))) := rfl
  unfold LineP at he
  subst he
  generalize lnA s = A at HE ⊢
  generalize lnB s = B at HE ⊢
  generalize decide (0 ≤ lix s) = C at HE ⊢
  go_wp2_with fail
  go_ret3
  exact ⟨HE.out, q, rfl⟩
theorem ten_step {s : ByteArray} {k : Nat} (h : ∀ j, j < k → ¬ sb s j = 10) (hk : ¬ sb s k = 10) : ∀ j, j < k + 1 → ¬ sb s j = 10 := by
  intro j hj
  by_cases e : j = k
  · rw [e]; exact hk
  · exact h j (by omega)
set_option maxHeartbeats 400000 in
theorem refline_any (s : ByteArray) (w : World) (hs : s.size ≤ 1099511627776) :
    Calls Tryd.prog 26 #[.string s] w fun e w' => LineP s e ∧ ∃ q, w' = w.drewN q := by
  go_enter Tryd.func26, Tryd.ntmps26
  go_wp2_with fail
  go_loop [5] (fun i => ∃ k : Nat, k ≤ s.size ∧ i = .int .i64 k ∧ ∀ j, j < k → ¬ sb s j = 10) (fun i => s.size - (intOf i).toNat)
  case atStart => exact ⟨0, Nat.zero_le _, rfl, fun j hj => by omega⟩
  case round =>
    obtain ⟨k, hk, rfl, hj⟩ := hrel
    have HJ : Hid (∀ j, j < k → ¬ sb s j = 10) := hj
    clear hj
    by_cases hlt : k < s.size
    · have hki : (k : Int) < (s.size : Int) := by omega
      have hse : ∀ h, (((s[k]'h).toNat : Nat) : Int) = sb s k := fun h => sb_eq s k h
      by_cases he : sb s k = 10
      · have HX : Hid (lix s = (k : Int)) := lix_some hlt HJ.out he
        have g1 : (sb s k != 10) = false := by simp [he]
        have g2 : ((k : Int) == (s.size : Int)) = false := by simp; omega
        have k2 : (k : Int) ≤ (s.size : Int) := by omega
        have k3 : (k : Int) + 1 ≤ (s.size : Int) := by omega
        clear he
        go_wp2_with fail
        go_quiet (fail)
        go_wp2_with fail
        go_ret3
        exact ⟨ln_some HX.out rfl, _, rfl⟩
      · have HN : Hid (∀ j, j < k + 1 → ¬ sb s j = 10) := ten_step HJ.out he
        have g1 : (sb s k != 10) = true := by simpa using he
        clear he
        go_wp2_with fail
        go_round
        case rel => exact ⟨k + 1, by omega, by go_num, HN.out⟩
        case measure => simp [intOf]; omega
    · have hki : ¬ (k : Int) < (s.size : Int) := by omega
      have HX : Hid (lix s = -1) := lix_none (fun j hj => HJ.out j (by omega))
      have g2 : ((k : Int) == (s.size : Int)) = true := by simp; omega
      go_wp2_with fail
      go_ret3
      exact ⟨ln_none HX.out rfl, 0, rfl⟩
end Go.Proofs.YtakploildkeofaaDoor
