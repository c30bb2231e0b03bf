/- Pieces and numbers of texts, as lists of bytes have them. No walk. -/
import Derived.Test.YtdameoejigpnhaaGreatDoorWireMath5
import Derived.Test.YtdameoejigpnhaaGreatDoorFieldMath
import Derived.Test.YtdameoejigpnhaaGreatDoorReadMath
namespace Go.Proofs.YtdameoejigpnhaaGreatDoor
open Go.RowKit
set_option linter.unusedVariables false
open Go.Lib (decDigits)

/-- a byte as it stands in a text -/
def u8I (c : Int) : UInt8 := UInt8.ofNat c.toNat
set_option maxRecDepth 100000 in
theorem u8I_inj {a b : Int} (ha : 0 ≤ a ∧ a ≤ 255) (hb : 0 ≤ b ∧ b ≤ 255) (h : u8I a = u8I b) : a = b := by
  have e := congrArg UInt8.toNat h
  simp only [u8I, UInt8.toNat_ofNat'] at e
  omega
set_option maxRecDepth 100000 in
theorem strOf_data (l : List Int) : (strOf l).data.toList = l.map u8I := rfl
set_option maxRecDepth 100000 in
theorem split_link (c : Int) (hc : 0 ≤ c ∧ c ≤ 255) : ∀ l : List Int, Byt l → splitL (u8I c) (l.map u8I) = (pcsI c l).map (List.map u8I)
  | [], _ => rfl
  | b :: r, h => by
    have hb : 0 ≤ b ∧ b ≤ 255 := h b (by simp)
    have ih := split_link c hc r (fun d hd => h d (by simp [hd]))
    show (if u8I b = u8I c then _ else _) = List.map _ (if b = c then _ else _)
    by_cases e : b = c
    · rw [if_pos (by rw [e]), if_pos e, ih]; rfl
    · rw [if_neg (fun h => e (u8I_inj hb hc h)), if_neg e, ih]
      cases pcsI c r with
      | nil => rfl
      | cons p ps => rfl
set_option maxRecDepth 100000 in
theorem pcs_link (c : Int) (hc : 0 ≤ c ∧ c ≤ 255) (l : List Int) (h : Byt l) : pcs (cb c) (strOf l) = (pcsI c l).map strOf := by
  unfold pcs
  rw [strOf_data, show cb c = u8I c from rfl, split_link c hc l h, List.map_map]
  rfl
set_option maxRecDepth 100000 in
theorem dec_link (n : Nat) : decDigits n = (decN n).map u8I := by
  induction n using Nat.strongRecOn with
  | _ n ih =>
    by_cases h : n < 10
    · rw [Lib.decDigits_one h, decN_lt h, List.map_cons, List.map_nil]
      congr 1
    · rw [decDigits_big h, decN_ge h, List.map_append, ih (n / 10) (by omega), List.map_cons, List.map_nil]
      congr 2
set_option maxRecDepth 100000 in
theorem decS_link (n : Nat) : decS (n : Int) = strOf (decN n) := by
  unfold decS
  rw [itoa_nat, dec_link]; rfl
set_option maxRecDepth 100000 in
theorem rd_link (l : List Int) (h : Byt l) : rdv (strOf l).data.toList = match rdD l with | none => none | some n => if n ≤ 9223372036854775807 then some (n : Int) else none := by
  cases hr : rdD l with
  | some n =>
    have e := rdD_some hr
    simp only []
    by_cases hn : n ≤ 9223372036854775807
    · rw [if_pos hn, strOf_data, e, ← dec_link]; exact rdv_dec n hn
    · rw [if_neg hn]
      refine rdv_not fun m hm em => ?_
      rw [strOf_data, dec_link] at em
      have : strOf l = strOf (decN m) := by
        show (⟨(l.map u8I).toArray⟩ : ByteArray) = ⟨((decN m).map u8I).toArray⟩
        rw [em]
      have h2 := strOf_inj h (decN_byt m) this
      rw [h2, rdD_decN] at hr
      cases hr
      omega
  | none =>
    simp only []
    refine rdv_not fun m hm em => ?_
    rw [strOf_data, dec_link] at em
    have : strOf l = strOf (decN m) := by
      show (⟨(l.map u8I).toArray⟩ : ByteArray) = ⟨((decN m).map u8I).toArray⟩
      rw [em]
    have h2 := strOf_inj h (decN_byt m) this
    rw [h2, rdD_decN] at hr
    cases hr
end Go.Proofs.YtdameoejigpnhaaGreatDoor
