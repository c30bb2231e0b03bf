/- Decimal digits: which number they are, how they are ordered. -/
import Derived.Test.YtpfijaojgeceeaaGreatDoorTBase
import Derived.Lib.ItoaNum
import Derived.Sort.Grow
namespace Go.Proofs.YtpfijaojgeceeaaGreatDoor
open Go.RowKit
set_option linter.unusedVariables false
open Go.Lib (decDigits nDigits itoa)

set_option maxRecDepth 100000 in
theorem dig_toNat {d : Nat} (h : d < 10) : (UInt8.ofNat (48 + d)).toNat = 48 + d := by
  rw [UInt8.toNat_ofNat']; omega
set_option maxRecDepth 100000 in
theorem dig_inj {c d : Nat} (hc : c < 10) (hd : d < 10) (h : UInt8.ofNat (48 + c) = UInt8.ofNat (48 + d)) : c = d := by
  have := congrArg UInt8.toNat h
  rw [dig_toNat hc, dig_toNat hd] at this; omega
set_option maxRecDepth 100000 in
theorem dig_lt {c d : Nat} (hc : c < 10) (hd : d < 10) : (UInt8.ofNat (48 + c) < UInt8.ofNat (48 + d)) ↔ c < d := by
  rw [UInt8.lt_iff_toNat_lt, dig_toNat hc, dig_toNat hd]; omega
set_option maxRecDepth 100000 in
theorem decDigits_big {u : Nat} (h : ¬ u < 10) : decDigits u = decDigits (u / 10) ++ [UInt8.ofNat (48 + u % 10)] := by rw [decDigits, dif_neg h]
set_option maxRecDepth 100000 in
theorem decDigits_inj : ∀ (u v : Nat), decDigits u = decDigits v → u = v := by
  intro u
  induction u using Nat.strongRecOn with
  | _ u ih =>
    intro v h
    by_cases hu : u < 10
    · by_cases hv : v < 10
      · rw [Lib.decDigits_one hu, Lib.decDigits_one hv] at h
        exact dig_inj hu hv (List.cons.inj h).1
      · exfalso
        have := congrArg List.length h
        rw [Lib.decDigits_length, Lib.decDigits_length, Lib.nDigits_small hu, Lib.nDigits_big hv] at this
        have := Lib.nDigits_pos (v / 10)
        omega
    · by_cases hv : v < 10
      · exfalso
        have := congrArg List.length h
        rw [Lib.decDigits_length, Lib.decDigits_length, Lib.nDigits_small hv, Lib.nDigits_big hu] at this
        have := Lib.nDigits_pos (u / 10)
        omega
      · rw [decDigits_big hu, decDigits_big hv] at h
        obtain ⟨h1, h2⟩ := List.append_inj' h rfl
        have e1 := ih (u / 10) (by omega) (v / 10) h1
        have e2 := dig_inj (Nat.mod_lt u (by decide)) (Nat.mod_lt v (by decide)) (List.cons.inj h2).1
        omega
set_option maxRecDepth 100000 in
theorem less_snoc : ∀ (x y : List UInt8) (c d : UInt8), x.length = y.length → Op.bytesLess (x ++ [c]) (y ++ [d]) = (Op.bytesLess x y || (x == y && decide (c < d)))
  | [], [], c, d, _ => by simp [Op.bytesLess]
  | a :: x, b :: y, c, d, h => by
    have ih := less_snoc x y c d (by simpa using h)
    simp only [List.cons_append, Op.bytesLess, ih]
    by_cases e : a = b
    · subst e
      cases Op.bytesLess x y <;> cases hx : (x == y) <;> simp_all
    · have e2 : (a == b) = false := by simpa using e
      have e3 : (a :: x == b :: y) = false := by simp [e]
      rw [e2, e3]; simp
set_option maxRecDepth 100000 in
theorem nDigits_mono : ∀ (u v : Nat), u ≤ v → nDigits u ≤ nDigits v := by
  intro u
  induction u using Nat.strongRecOn with
  | _ u ih =>
    intro v h
    by_cases hu : u < 10
    · rw [Lib.nDigits_small hu]; exact Lib.nDigits_pos v
    · rw [Lib.nDigits_big hu, Lib.nDigits_big (u := v) (by omega)]
      have := ih (u / 10) (by omega) (v / 10) (by omega)
      omega
set_option maxRecDepth 100000 in
theorem dec_less : ∀ (u v : Nat), nDigits u = nDigits v → Op.bytesLess (decDigits u) (decDigits v) = decide (u < v) := by
  intro u
  induction u using Nat.strongRecOn with
  | _ u ih =>
    intro v h
    by_cases hu : u < 10
    · have hv : v < 10 := by
        apply Classical.byContradiction
        intro hv
        rw [Lib.nDigits_small hu, Lib.nDigits_big hv] at h
        have := Lib.nDigits_pos (v / 10)
        omega
      rw [Lib.decDigits_one hu, Lib.decDigits_one hv]
      have := less_snoc [] [] (UInt8.ofNat (48 + u)) (UInt8.ofNat (48 + v)) rfl
      simp only [List.nil_append] at this
      have e2 : decide (UInt8.ofNat (48 + u) < UInt8.ofNat (48 + v)) = decide (u < v) := decide_eq_decide.2 (dig_lt hu hv)
      rw [this, e2]
      simp [Op.bytesLess]
    · have hv : ¬ v < 10 := by
        intro hv
        rw [Lib.nDigits_small hv, Lib.nDigits_big hu] at h
        have := Lib.nDigits_pos (u / 10)
        omega
      rw [Lib.nDigits_big hu, Lib.nDigits_big hv] at h
      have hl : (decDigits (u / 10)).length = (decDigits (v / 10)).length := by rw [Lib.decDigits_length, Lib.decDigits_length]; omega
      rw [decDigits_big hu, decDigits_big hv, less_snoc _ _ _ _ hl, ih (u / 10) (by omega) (v / 10) (by omega)]
      have e1 : (decDigits (u / 10) == decDigits (v / 10)) = decide (u / 10 = v / 10) := by
        rw [Bool.eq_iff_iff]; simp; exact ⟨decDigits_inj _ _, fun h => by rw [h]⟩
      have e2 : decide (UInt8.ofNat (48 + u % 10) < UInt8.ofNat (48 + v % 10)) = decide (u % 10 < v % 10) := by
        exact decide_eq_decide.2 (dig_lt (Nat.mod_lt u (by decide)) (Nat.mod_lt v (by decide)))
      rw [e1, e2, Bool.eq_iff_iff]
      simp only [Bool.or_eq_true, Bool.and_eq_true, decide_eq_true_eq]
      omega
set_option maxRecDepth 100000 in
theorem itoa_nat (u : Nat) : itoa (u : Int) = decDigits u := by
  unfold itoa
  rw [if_neg (by omega)]
  congr 1
set_option maxRecDepth 100000 in
theorem below_grow (w : World) (k : Nat) (os : Array Obj) : Below w.heap.size w (Sort.grow (w.drewN k) os) :=
  ⟨rfl, rfl, rfl, by simp, fun j hj => Sort.heap_grow_old (w.drewN k) os hj⟩
end Go.Proofs.YtpfijaojgeceeaaGreatDoor
