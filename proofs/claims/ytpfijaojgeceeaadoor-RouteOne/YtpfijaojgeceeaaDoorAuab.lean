/- Pieces and numbers of texts, as lists of bytes have them. No walk. What a request's bytes are, as Print writes them. No walk. -/
import Derived.Test.YtpfijaojgeceeaaDoorAuad
import Derived.Test.YtpfijaojgeceeaaDoorFieldMath
import Derived.Test.YtpfijaojgeceeaaDoorReadMath
import Derived.Test.YtpfijaojgeceeaaDoorAuai
import Derived.Test.YtpfijaojgeceeaaDoorStr
namespace Go.Proofs.YtpfijaojgeceeaaDoor
open Go.RowKit
set_option linter.unusedVariables false
open Go.Lib (decDigits)

/-- a byte as it stands in a text -/
def u8I (c : Int) : UInt8 := UInt8.ofNat c.toNat
set_option maxRecDepth 100000 in
theorem u8I_inj {a b : Int} (ha : 0 ≤ a ∧ a ≤ 255) (hb : 0 ≤ b ∧ b ≤ 255) (h : u8I a = u8I b) : a = b := by
  have e := congrArg UInt8.toNat h
  simp only [u8I, UInt8.toNat_ofNat'] at e
  omega
set_option maxRecDepth 100000 in
theorem strOf_data (l : List Int) : (strOf l).data.toList = l.map u8I := rfl
set_option maxRecDepth 100000 in
theorem split_link (c : Int) (hc : 0 ≤ c ∧ c ≤ 255) : ∀ l : List Int, Byt l → splitL (u8I c) (l.map u8I) = (pcsI c l).map (List.map u8I)
  | [], _ => rfl
  | b :: r, h => by
    have hb : 0 ≤ b ∧ b ≤ 255 := h b (by simp)
    have ih := split_link c hc r (fun d hd => h d (by simp [hd]))
    show (if u8I b = u8I c then _ else _) = List.map _ (if b = c then _ else _)
    by_cases e : b = c
    · rw [if_pos (by rw [e]), if_pos e, ih]; rfl
    · rw [if_neg (fun h => e (u8I_inj hb hc h)), if_neg e, ih]
      cases pcsI c r with
      | nil => rfl
      | cons p ps => rfl
set_option maxRecDepth 100000 in
theorem pcs_link (c : Int) (hc : 0 ≤ c ∧ c ≤ 255) (l : List Int) (h : Byt l) : pcs (cb c) (strOf l) = (pcsI c l).map strOf := by
  unfold pcs
  rw [strOf_data, show cb c = u8I c from rfl, split_link c hc l h, List.map_map]
  rfl
set_option maxRecDepth 100000 in
theorem dec_link (n : Nat) : decDigits n = (decN n).map u8I := by
  induction n using Nat.strongRecOn with
  | _ n ih =>
    by_cases h : n < 10
    · rw [Lib.decDigits_one h, decN_lt h, List.map_cons, List.map_nil]
      congr 1
    · rw [decDigits_big h, decN_ge h, List.map_append, ih (n / 10) (by omega), List.map_cons, List.map_nil]
      congr 2
set_option maxRecDepth 100000 in
theorem decS_link (n : Nat) : decS (n : Int) = strOf (decN n) := by
  unfold decS
  rw [itoa_nat, dec_link]; rfl
set_option maxRecDepth 100000 in
theorem rd_link (l : List Int) (h : Byt l) : rdv (strOf l).data.toList = match rdD l with | none => none | some n => if n ≤ 9223372036854775807 then some (n : Int) else none := by
  cases hr : rdD l with
  | some n =>
    have e := rdD_some hr
    simp only []
    by_cases hn : n ≤ 9223372036854775807
    · rw [if_pos hn, strOf_data, e, ← dec_link]; exact rdv_dec n hn
    · rw [if_neg hn]
      refine rdv_not fun m hm em => ?_
      rw [strOf_data, dec_link] at em
      have : strOf l = strOf (decN m) := by
        show (⟨(l.map u8I).toArray⟩ : ByteArray) = ⟨((decN m).map u8I).toArray⟩
        rw [em]
      have h2 := strOf_inj h (decN_byt m) this
      rw [h2, rdD_decN] at hr
      cases hr
      omega
  | none =>
    simp only []
    refine rdv_not fun m hm em => ?_
    rw [strOf_data, dec_link] at em
    have : strOf l = strOf (decN m) := by
      show (⟨(l.map u8I).toArray⟩ : ByteArray) = ⟨((decN m).map u8I).toArray⟩
      rw [em]
    have h2 := strOf_inj h (decN_byt m) this
    rw [h2, rdD_decN] at hr
    cases hr
end Go.Proofs.YtpfijaojgeceeaaDoor
namespace Go.Proofs.YtpfijaojgeceeaaDoor
open Go.RowKit
set_option linter.unusedVariables false

def smW (x y : WX) : Bool := decide (x.m = y.m) && (decide (x.t = y.t) && (decide (x.k = y.k) && decide (x.b = y.b)))
set_option maxRecDepth 100000 in
theorem smW_iff (x y : WX) : smW x y = true ↔ x = y := by
  unfold smW
  obtain ⟨a, b, c, d⟩ := x
  obtain ⟨e, f, g, h⟩ := y
  simp
set_option maxRecDepth 100000 in
theorem strL_append (a b : ByteArray) : strL (a ++ b) = strL a ++ strL b := by
  unfold strL
  rw [show (a ++ b).data.toList = a.data.toList ++ b.data.toList from by rw [ByteArray.data_append, Array.toList_append], List.map_append]
set_option maxRecDepth 100000 in
theorem size_append (a b : ByteArray) : (a ++ b).size = a.size + b.size := by rw [← strL_length, strL_append, List.length_append, strL_length, strL_length]
def lenH : ByteArray := ⟨#[67, 111, 110, 116, 101, 110, 116, 45, 76, 101, 110, 103, 116, 104, 58, 32]⟩
def decB (n : Nat) : ByteArray := ⟨(Lib.itoa (n : Int)).toArray⟩
set_option maxRecDepth 100000 in
theorem decB_eq (n : Nat) : decB n = strOf (decN n) := decS_link n
set_option maxRecDepth 100000 in
theorem decN_le (n : Nat) (hn : n < 1000000) : (decN n).length ≤ 6 := by
  have key : ∀ (k n : Nat), n < 10 ^ (k + 1) → (decN n).length ≤ k + 1 := by
    intro k
    induction k with
    | zero => intro n hn; rw [decN_lt (by simpa using hn)]; simp
    | succ k ih =>
      intro n hn
      by_cases h : n < 10
      · rw [decN_lt h]; simp
      · rw [decN_ge h, List.length_append]
        have := ih (n / 10) (by rw [Nat.pow_succ] at hn; omega)
        simp only [List.length_cons, List.length_nil]
        omega
  exact key 5 n (by simpa using hn)
set_option maxRecDepth 100000 in
theorem decB_size (n : Nat) (hn : n < 1000000) : (decB n).size ≤ 6 := by rw [decB_eq, strOf_size]; exact decN_le n hn
def lenB (n : Nat) : ByteArray := (lenH ++ decB n) ++ ⟨#[13, 10]⟩
set_option maxRecDepth 100000 in
theorem lenB_size (n : Nat) (hn : n < 1000000) : (lenB n).size ≤ 24 := by
  unfold lenB
  rw [size_append, size_append]
  have := decB_size n hn
  show 16 + _ + 2 ≤ 24
  omega
set_option maxRecDepth 100000 in
theorem ba_assoc (a b c : ByteArray) : (a ++ b) ++ c = a ++ (b ++ c) := by
  apply ba_ext
  simp only [ByteArray.data_append, Array.toList_append, List.append_assoc]
def wrA (x : WX) : ByteArray := ((((x.m ++ ⟨#[32]⟩) ++ x.t) ++ ⟨#[32]⟩) ++ ⟨#[72, 84, 84, 80, 47, 49, 46, 49]⟩) ++ ⟨#[13, 10]⟩
def authB (k : ByteArray) : ByteArray := ((⟨#[65, 117, 116, 104, 111, 114, 105, 122, 97, 116, 105, 111, 110, 58, 32, 66, 101, 97, 114, 101, 114, 32]⟩ : ByteArray) ++ k) ++ ⟨#[13, 10]⟩
def wrT (x : WX) : ByteArray := if x.k.size = 0 then wrA x else wrA x ++ authB x.k
def wrN (x : WX) : ByteArray := if x.b.length = 0 then wrT x else wrT x ++ lenB x.b.length
def wrB (x : WX) : ByteArray := wrN x ++ ⟨#[13, 10]⟩
def wrL (x : WX) : List Int := strL (wrB x) ++ x.b
/-- no part is too long -/
structure Sml (x : WX) : Prop where
  m : x.m.size ≤ 50
  t : x.t.size ≤ 200
  k : x.k.size ≤ 1200
  b : x.b.length ≤ 2100
/-- .. but for a body of up to 5000 bytes -/
structure Sm5 (x : WX) : Prop where
  m : x.m.size ≤ 50
  t : x.t.size ≤ 200
  k : x.k.size ≤ 1200
  b : x.b.length ≤ 5000
set_option maxRecDepth 100000 in
theorem Sml.five {x : WX} (h : Sml x) : Sm5 x := ⟨h.m, h.t, h.k, by have := h.b; omega⟩
set_option maxRecDepth 100000 in
theorem wrA_size5 {x : WX} (h : Sm5 x) : (wrA x).size ≤ 300 := by
  unfold wrA
  rw [size_append, size_append, size_append, size_append, size_append]
  have := h.m
  have := h.t
  show _ + 1 + _ + 1 + 8 + 2 ≤ 300
  omega
set_option maxRecDepth 100000 in
theorem authB_size5 {x : WX} (h : Sm5 x) : (authB x.k).size ≤ 1300 := by
  unfold authB
  rw [size_append, size_append]
  have := h.k
  show 22 + _ + 2 ≤ 1300
  omega
set_option maxRecDepth 100000 in
theorem wrT_size5 {x : WX} (h : Sm5 x) : (wrT x).size ≤ 1600 := by
  unfold wrT
  have := wrA_size5 h
  have := authB_size5 h
  split
  · omega
  · rw [size_append]; omega
set_option maxRecDepth 100000 in
theorem wrN_size5 {x : WX} (h : Sm5 x) : (wrN x).size ≤ 1630 := by
  unfold wrN
  have := wrT_size5 h
  have := lenB_size x.b.length (by have := h.b; omega)
  split
  · omega
  · rw [size_append]; omega
set_option maxRecDepth 100000 in
theorem wrB_size5 {x : WX} (h : Sm5 x) : (wrB x).size ≤ 1640 ∧ 1 ≤ (wrB x).size := by
  unfold wrB
  rw [size_append]
  have := wrN_size5 h
  show _ + 2 ≤ 1640 ∧ 1 ≤ _ + 2
  omega
set_option maxRecDepth 100000 in
theorem wrA_size {x : WX} (h : Sml x) : (wrA x).size ≤ 300 := wrA_size5 h.five
set_option maxRecDepth 100000 in
theorem authB_size {x : WX} (h : Sml x) : (authB x.k).size ≤ 1300 := authB_size5 h.five
set_option maxRecDepth 100000 in
theorem wrT_size {x : WX} (h : Sml x) : (wrT x).size ≤ 1600 := wrT_size5 h.five
set_option maxRecDepth 100000 in
theorem wrN_size {x : WX} (h : Sml x) : (wrN x).size ≤ 1630 := wrN_size5 h.five
set_option maxRecDepth 100000 in
theorem wrB_size {x : WX} (h : Sml x) : (wrB x).size ≤ 1640 ∧ 1 ≤ (wrB x).size := wrB_size5 h.five
def prT (x : WX) : WX × Nat × Int := runQ wp0 ws0 (wrL x) 0
/-- whether a request is one -/
def prB (x : WX) : Bool := decide ((prT x).2.2 = 0) && (decide ((prT x).2.1 = (wrL x).length) && smW x (prT x).1)
set_option maxRecDepth 100000 in
theorem prB_iff (x : WX) : prB x = true ↔ prT x = (x, (wrL x).length, 0) := by
  unfold prB
  generalize prT x = T
  obtain ⟨T1, T2, T3⟩ := T
  simp only [Bool.and_eq_true, decide_eq_true_eq, smW_iff, Prod.mk.injEq]
  exact ⟨fun ⟨a, b, c⟩ => ⟨c.symm, b, a⟩, fun ⟨a, b, c⟩ => ⟨c, b, a.symm⟩⟩
end Go.Proofs.YtpfijaojgeceeaaDoor
