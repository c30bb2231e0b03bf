/- What a target asks, what a request asks, which request asks anything. No walk. Pieces and numbers of texts, as lists of bytes have them. No walk. What a request's bytes are, as Print writes them. No walk. A request that Print of layer 23 makes is one of the wire's: what is written is read. No walk. A target that asks anything is a target of the wire's. No walk. -/
import Derived.Test.YtpfijaojgeceeaaGreatDoorAuar
import Derived.Test.YtpfijaojgeceeaaGreatDoorWireMath
import Derived.Test.YtpfijaojgeceeaaGreatDoorName
import Derived.Test.YtpfijaojgeceeaaGreatDoorFieldMath
import Derived.Test.YtpfijaojgeceeaaGreatDoorBackMath
import Derived.Test.YtpfijaojgeceeaaGreatDoorRefDec
import Derived.Test.YtpfijaojgeceeaaGreatDoorAuas
import Derived.Test.YtpfijaojgeceeaaGreatDoorAuaq
import Derived.Test.YtpfijaojgeceeaaGreatDoorAuan
namespace Go.Proofs.YtpfijaojgeceeaaGreatDoor
open Go.RowKit
set_option linter.unusedVariables false

/-- the words -/
def wHead : ByteArray := ⟨#[104, 101, 97, 100]⟩
def wUsage : ByteArray := ⟨#[117, 115, 97, 103, 101]⟩
def wUp : ByteArray := ⟨#[117, 112, 108, 111, 97, 100, 115]⟩
def wHist : ByteArray := ⟨#[104, 105, 115, 116, 111, 114, 105, 101, 115]⟩
def wSpecs : ByteArray := ⟨#[115, 112, 101, 99, 115]⟩
def wJobs : ByteArray := ⟨#[106, 111, 98, 115]⟩
def wHeads : ByteArray := ⟨#[104, 101, 97, 100, 115]⟩
def wEnts : ByteArray := ⟨#[101, 110, 116, 114, 105, 101, 115]⟩
def wGrow : ByteArray := ⟨#[103, 114, 111, 119, 116, 104]⟩
def mGet : ByteArray := ⟨#[71, 69, 84]⟩
def mPut : ByteArray := ⟨#[80, 85, 84]⟩
def mPost : ByteArray := ⟨#[80, 79, 83, 84]⟩
/-- which method a kind has -/
def mthK (k : Int) : ByteArray := if k = 1 ∨ k = 3 then mPut else if k = 2 ∨ k = 4 then mPost else mGet
/-- what pieces of a target ask -/
def tg0 (x : ByteArray) : Option As := if x = wHead then some ⟨10, ⟨#[]⟩, ⟨#[]⟩, [], 0, 0⟩ else if x = wUsage then some ⟨9, ⟨#[]⟩, ⟨#[]⟩, [], 0, 0⟩ else none
def tg1N (x p : ByteArray) : Option As := if x = wUp then some ⟨1, p, ⟨#[]⟩, [], 0, 0⟩ else if x = wHist then some ⟨2, p, ⟨#[]⟩, [], 0, 0⟩ else if x = wSpecs then some ⟨3, p, ⟨#[]⟩, [], 0, 0⟩ else none
def tg1D (x : ByteArray) (n : Int) : Option As := if x = wJobs then some ⟨5, ⟨#[]⟩, ⟨#[]⟩, [], n, 0⟩ else if x = wHeads then some ⟨6, ⟨#[]⟩, ⟨#[]⟩, [], n, 0⟩ else none
def tg2D (x : ByteArray) (n m : Int) : Option As := if x = wEnts then some ⟨7, ⟨#[]⟩, ⟨#[]⟩, [], n, m⟩ else if x = wGrow then some ⟨8, ⟨#[]⟩, ⟨#[]⟩, [], n, m⟩ else none
def rdB (p : ByteArray) : Option Int := rdv p.data.toList
def tgL : List ByteArray → Option As
  | [e, x] => if e = ⟨#[]⟩ then tg0 x else none
  | [e, x, p] => if e = ⟨#[]⟩ then (if nameB p = true then tg1N x p else match rdB p with | some n => tg1D x n | none => none) else none
  | [e, x, p, q] => if e = ⟨#[]⟩ then (if nameB p = true ∧ nameB q = true ∧ x = wJobs then some ⟨4, p, q, [], 0, 0⟩ else match rdB p, rdB q with | some n, some m => tg2D x n m | _, _ => none) else none
  | _ => none
def tgV (t : ByteArray) : Option As := tgL (pcs 47 t)
/-- what a request asks, or which status it is told -/
def parV (x : WX) : As × Int := match tgV x.t with
  | none => (as0, 404)
  | some a => if x.m = mthK a.k then (if a.k = 1 ∨ a.k = 3 then ⟨a.k, a.nm, a.sp, x.b, a.A, a.B⟩ else a, 200) else (as0, 405)
set_option maxRecDepth 100000 in
/-- a name is no number -/
theorem name_nonum {p : ByteArray} (h : nameB p = true) : rdB p = none := by
  unfold rdB
  cases e : rdv p.data.toList with
  | none => rfl
  | some v =>
    exfalso
    obtain ⟨h1, h2, h3⟩ := rd_back e
    have hn := (nameB_iff p).1 h
    obtain ⟨m, rfl, hm, hl⟩ := rdv_some e
    obtain ⟨c, r, hd, hc1, hc2⟩ := dec_head m
    have h0 : sb p 0 = (c.toNat : Int) := by
      unfold sb
      rw [show p.data.toList = c :: r from by rw [hl, hd]]
      rfl
    have hlet := hn.2.2.1
    rw [h0] at hlet
    unfold isLet at hlet
    simp at hlet
    omega
/-- the request that asks -/
def tgtP (a : As) : ByteArray :=
  if a.k = 1 then ⟨#[47, 117, 112, 108, 111, 97, 100, 115, 47]⟩ ++ a.nm else if a.k = 2 then ⟨#[47, 104, 105, 115, 116, 111, 114, 105, 101, 115, 47]⟩ ++ a.nm else if a.k = 3 then ⟨#[47, 115, 112, 101, 99, 115, 47]⟩ ++ a.nm else
  if a.k = 4 then ⟨#[47, 106, 111, 98, 115, 47]⟩ ++ a.nm ++ ⟨#[47]⟩ ++ a.sp else if a.k = 5 then ⟨#[47, 106, 111, 98, 115, 47]⟩ ++ decS a.A else if a.k = 6 then ⟨#[47, 104, 101, 97, 100, 115, 47]⟩ ++ decS a.A else
  if a.k = 7 then ⟨#[47, 101, 110, 116, 114, 105, 101, 115, 47]⟩ ++ decS a.A ++ ⟨#[47]⟩ ++ decS a.B else if a.k = 8 then ⟨#[47, 103, 114, 111, 119, 116, 104, 47]⟩ ++ decS a.A ++ ⟨#[47]⟩ ++ decS a.B else
  if a.k = 9 then ⟨#[47, 117, 115, 97, 103, 101]⟩ else if a.k = 10 then ⟨#[47, 104, 101, 97, 100]⟩ else ⟨#[]⟩
def prtX (a : As) : WX := ⟨mthK a.k, tgtP a, ⟨#[]⟩, if a.k = 1 ∨ a.k = 3 then a.b else []⟩
/-- two asks are one -/
def asE (a b : As) : Bool := decide (a.k = b.k) && (decide (a.nm = b.nm) && (decide (a.sp = b.sp) && (decide (a.A = b.A) && (decide (a.B = b.B) && decide (a.b = b.b)))))
set_option maxRecDepth 100000 in
theorem asE_iff (a b : As) : asE a b = true ↔ a = b := by
  obtain ⟨a1, a2, a3, a4, a5, a6⟩ := a
  obtain ⟨b1, b2, b3, b4, b5, b6⟩ := b
  unfold asE
  simp only [Bool.and_eq_true, decide_eq_true_eq, As.mk.injEq]
  constructor
  · rintro ⟨h1, h2, h3, h4, h5, h6⟩; exact ⟨h1, h2, h3, h6, h4, h5⟩
  · rintro ⟨h1, h2, h3, h6, h4, h5⟩; exact ⟨h1, h2, h3, h4, h5, h6⟩
/-- is it asked so -/
def prtOk (a : As) : Bool := decide ((parV (prtX a)).2 = 200) && asE a (parV (prtX a)).1
set_option maxRecDepth 100000 in
theorem prtOk_iff (a : As) : prtOk a = true ↔ parV (prtX a) = (a, 200) := by
  unfold prtOk
  rw [Bool.and_eq_true, decide_eq_true_eq, asE_iff]
  constructor
  · rintro ⟨h1, h2⟩; exact Prod.ext h2.symm h1
  · intro h; rw [h]; exact ⟨rfl, rfl⟩
/-- Print: the request, or none -/
def prtV (a : As) : WX × Int := if prtOk a = true then (prtX a, 0) else (wx0, 2)
set_option maxRecDepth 100000 in
theorem prtV_ok {a : As} (h : (prtV a).2 = 0) : parV (prtX a) = (a, 200) ∧ (prtV a).1 = prtX a := by
  unfold prtV at h ⊢
  by_cases hc : prtOk a = true
  · rw [if_pos hc]; exact ⟨(prtOk_iff a).1 hc, rfl⟩
  · rw [if_neg hc] at h; cases h
set_option maxRecDepth 100000 in
theorem prtV_no {a : As} (h : (prtV a).2 ≠ 0) : prtV a = (wx0, 2) := by
  unfold prtV at h ⊢
  by_cases hc : prtOk a = true
  · rw [if_pos hc] at h; exact absurd rfl h
  · rw [if_neg hc]
set_option maxRecDepth 100000 in
/-- no two asks have one request -/
theorem prtV_one {a b : As} (ha : (prtV a).2 = 0) (hb : (prtV b).2 = 0) : (prtV a).1 = (prtV b).1 ↔ a = b := by
  obtain ⟨a1, a2⟩ := prtV_ok ha
  obtain ⟨b1, b2⟩ := prtV_ok hb
  constructor
  · intro h
    rw [a2, b2] at h
    rw [h, b1] at a1
    exact (Prod.mk.inj a1).1.symm
  · intro h; rw [h]
end Go.Proofs.YtpfijaojgeceeaaGreatDoor
namespace Go.Proofs.YtpfijaojgeceeaaGreatDoor
open Go.RowKit
set_option linter.unusedVariables false
open Go.Lib (decDigits)

/-- a byte as it stands in a text -/
def u8I (c : Int) : UInt8 := UInt8.ofNat c.toNat
set_option maxRecDepth 100000 in
theorem u8I_inj {a b : Int} (ha : 0 ≤ a ∧ a ≤ 255) (hb : 0 ≤ b ∧ b ≤ 255) (h : u8I a = u8I b) : a = b := by
  have e := congrArg UInt8.toNat h
  simp only [u8I, UInt8.toNat_ofNat'] at e
  omega
set_option maxRecDepth 100000 in
theorem strOf_data (l : List Int) : (strOf l).data.toList = l.map u8I := rfl
set_option maxRecDepth 100000 in
theorem split_link (c : Int) (hc : 0 ≤ c ∧ c ≤ 255) : ∀ l : List Int, Byt l → splitL (u8I c) (l.map u8I) = (pcsI c l).map (List.map u8I)
  | [], _ => rfl
  | b :: r, h => by
    have hb : 0 ≤ b ∧ b ≤ 255 := h b (by simp)
    have ih := split_link c hc r (fun d hd => h d (by simp [hd]))
    show (if u8I b = u8I c then _ else _) = List.map _ (if b = c then _ else _)
    by_cases e : b = c
    · rw [if_pos (by rw [e]), if_pos e, ih]; rfl
    · rw [if_neg (fun h => e (u8I_inj hb hc h)), if_neg e, ih]
      cases pcsI c r with
      | nil => rfl
      | cons p ps => rfl
set_option maxRecDepth 100000 in
theorem pcs_link (c : Int) (hc : 0 ≤ c ∧ c ≤ 255) (l : List Int) (h : Byt l) : pcs (cb c) (strOf l) = (pcsI c l).map strOf := by
  unfold pcs
  rw [strOf_data, show cb c = u8I c from rfl, split_link c hc l h, List.map_map]
  rfl
set_option maxRecDepth 100000 in
theorem dec_link (n : Nat) : decDigits n = (decN n).map u8I := by
  induction n using Nat.strongRecOn with
  | _ n ih =>
    by_cases h : n < 10
    · rw [Lib.decDigits_one h, decN_lt h, List.map_cons, List.map_nil]
      congr 1
    · rw [decDigits_big h, decN_ge h, List.map_append, ih (n / 10) (by omega), List.map_cons, List.map_nil]
      congr 2
set_option maxRecDepth 100000 in
theorem decS_link (n : Nat) : decS (n : Int) = strOf (decN n) := by
  unfold decS
  rw [itoa_nat, dec_link]; rfl
set_option maxRecDepth 100000 in
theorem rd_link (l : List Int) (h : Byt l) : rdv (strOf l).data.toList = match rdD l with | none => none | some n => if n ≤ 9223372036854775807 then some (n : Int) else none := by
  cases hr : rdD l with
  | some n =>
    have e := rdD_some hr
    simp only []
    by_cases hn : n ≤ 9223372036854775807
    · rw [if_pos hn, strOf_data, e, ← dec_link]; exact rdv_dec n hn
    · rw [if_neg hn]
      refine rdv_not fun m hm em => ?_
      rw [strOf_data, dec_link] at em
      have : strOf l = strOf (decN m) := by
        show (⟨(l.map u8I).toArray⟩ : ByteArray) = ⟨((decN m).map u8I).toArray⟩
        rw [em]
      have h2 := strOf_inj h (decN_byt m) this
      rw [h2, rdD_decN] at hr
      cases hr
      omega
  | none =>
    simp only []
    refine rdv_not fun m hm em => ?_
    rw [strOf_data, dec_link] at em
    have : strOf l = strOf (decN m) := by
      show (⟨(l.map u8I).toArray⟩ : ByteArray) = ⟨((decN m).map u8I).toArray⟩
      rw [em]
    have h2 := strOf_inj h (decN_byt m) this
    rw [h2, rdD_decN] at hr
    cases hr
end Go.Proofs.YtpfijaojgeceeaaGreatDoor
namespace Go.Proofs.YtpfijaojgeceeaaGreatDoor
open Go.RowKit
set_option linter.unusedVariables false

def smW (x y : WX) : Bool := decide (x.m = y.m) && (decide (x.t = y.t) && (decide (x.k = y.k) && decide (x.b = y.b)))
set_option maxRecDepth 100000 in
theorem smW_iff (x y : WX) : smW x y = true ↔ x = y := by
  unfold smW
  obtain ⟨a, b, c, d⟩ := x
  obtain ⟨e, f, g, h⟩ := y
  simp
set_option maxRecDepth 100000 in
theorem strL_append (a b : ByteArray) : strL (a ++ b) = strL a ++ strL b := by
  unfold strL
  rw [show (a ++ b).data.toList = a.data.toList ++ b.data.toList from by rw [ByteArray.data_append, Array.toList_append], List.map_append]
set_option maxRecDepth 100000 in
theorem size_append (a b : ByteArray) : (a ++ b).size = a.size + b.size := by rw [← strL_length, strL_append, List.length_append, strL_length, strL_length]
def lenH : ByteArray := ⟨#[67, 111, 110, 116, 101, 110, 116, 45, 76, 101, 110, 103, 116, 104, 58, 32]⟩
def decB (n : Nat) : ByteArray := ⟨(Lib.itoa (n : Int)).toArray⟩
set_option maxRecDepth 100000 in
theorem decB_eq (n : Nat) : decB n = strOf (decN n) := decS_link n
set_option maxRecDepth 100000 in
theorem decN_le (n : Nat) (hn : n < 1000000) : (decN n).length ≤ 6 := by
  have key : ∀ (k n : Nat), n < 10 ^ (k + 1) → (decN n).length ≤ k + 1 := by
    intro k
    induction k with
    | zero => intro n hn; rw [decN_lt (by simpa using hn)]; simp
    | succ k ih =>
      intro n hn
      by_cases h : n < 10
      · rw [decN_lt h]; simp
      · rw [decN_ge h, List.length_append]
        have := ih (n / 10) (by rw [Nat.pow_succ] at hn; omega)
        simp only [List.length_cons, List.length_nil]
        omega
  exact key 5 n (by simpa using hn)
set_option maxRecDepth 100000 in
theorem decB_size (n : Nat) (hn : n < 1000000) : (decB n).size ≤ 6 := by rw [decB_eq, strOf_size]; exact decN_le n hn
def lenB (n : Nat) : ByteArray := (lenH ++ decB n) ++ ⟨#[13, 10]⟩
set_option maxRecDepth 100000 in
theorem lenB_size (n : Nat) (hn : n < 1000000) : (lenB n).size ≤ 24 := by
  unfold lenB
  rw [size_append, size_append]
  have := decB_size n hn
  show 16 + _ + 2 ≤ 24
  omega
set_option maxRecDepth 100000 in
theorem ba_assoc (a b c : ByteArray) : (a ++ b) ++ c = a ++ (b ++ c) := by
  apply ba_ext
  simp only [ByteArray.data_append, Array.toList_append, List.append_assoc]
def wrA (x : WX) : ByteArray := ((((x.m ++ ⟨#[32]⟩) ++ x.t) ++ ⟨#[32]⟩) ++ ⟨#[72, 84, 84, 80, 47, 49, 46, 49]⟩) ++ ⟨#[13, 10]⟩
def authB (k : ByteArray) : ByteArray := ((⟨#[65, 117, 116, 104, 111, 114, 105, 122, 97, 116, 105, 111, 110, 58, 32, 66, 101, 97, 114, 101, 114, 32]⟩ : ByteArray) ++ k) ++ ⟨#[13, 10]⟩
def wrT (x : WX) : ByteArray := if x.k.size = 0 then wrA x else wrA x ++ authB x.k
def wrN (x : WX) : ByteArray := if x.b.length = 0 then wrT x else wrT x ++ lenB x.b.length
def wrB (x : WX) : ByteArray := wrN x ++ ⟨#[13, 10]⟩
def wrL (x : WX) : List Int := strL (wrB x) ++ x.b
/-- no part is too long -/
structure Sml (x : WX) : Prop where
  m : x.m.size ≤ 50
  t : x.t.size ≤ 200
  k : x.k.size ≤ 1200
  b : x.b.length ≤ 2100
/-- .. but for a body of up to 5000 bytes -/
structure Sm5 (x : WX) : Prop where
  m : x.m.size ≤ 50
  t : x.t.size ≤ 200
  k : x.k.size ≤ 1200
  b : x.b.length ≤ 5000
set_option maxRecDepth 100000 in
theorem Sml.five {x : WX} (h : Sml x) : Sm5 x := ⟨h.m, h.t, h.k, by have := h.b; omega⟩
set_option maxRecDepth 100000 in
theorem wrA_size5 {x : WX} (h : Sm5 x) : (wrA x).size ≤ 300 := by
  unfold wrA
  rw [size_append, size_append, size_append, size_append, size_append]
  have := h.m
  have := h.t
  show _ + 1 + _ + 1 + 8 + 2 ≤ 300
  omega
set_option maxRecDepth 100000 in
theorem authB_size5 {x : WX} (h : Sm5 x) : (authB x.k).size ≤ 1300 := by
  unfold authB
  rw [size_append, size_append]
  have := h.k
  show 22 + _ + 2 ≤ 1300
  omega
set_option maxRecDepth 100000 in
theorem wrT_size5 {x : WX} (h : Sm5 x) : (wrT x).size ≤ 1600 := by
  unfold wrT
  have := wrA_size5 h
  have := authB_size5 h
  split
  · omega
  · rw [size_append]; omega
set_option maxRecDepth 100000 in
theorem wrN_size5 {x : WX} (h : Sm5 x) : (wrN x).size ≤ 1630 := by
  unfold wrN
  have := wrT_size5 h
  have := lenB_size x.b.length (by have := h.b; omega)
  split
  · omega
  · rw [size_append]; omega
set_option maxRecDepth 100000 in
theorem wrB_size5 {x : WX} (h : Sm5 x) : (wrB x).size ≤ 1640 ∧ 1 ≤ (wrB x).size := by
  unfold wrB
  rw [size_append]
  have := wrN_size5 h
  show _ + 2 ≤ 1640 ∧ 1 ≤ _ + 2
  omega
set_option maxRecDepth 100000 in
theorem wrA_size {x : WX} (h : Sml x) : (wrA x).size ≤ 300 := wrA_size5 h.five
set_option maxRecDepth 100000 in
theorem authB_size {x : WX} (h : Sml x) : (authB x.k).size ≤ 1300 := authB_size5 h.five
set_option maxRecDepth 100000 in
theorem wrT_size {x : WX} (h : Sml x) : (wrT x).size ≤ 1600 := wrT_size5 h.five
set_option maxRecDepth 100000 in
theorem wrN_size {x : WX} (h : Sml x) : (wrN x).size ≤ 1630 := wrN_size5 h.five
set_option maxRecDepth 100000 in
theorem wrB_size {x : WX} (h : Sml x) : (wrB x).size ≤ 1640 ∧ 1 ≤ (wrB x).size := wrB_size5 h.five
def prT (x : WX) : WX × Nat × Int := runQ wp0 ws0 (wrL x) 0
/-- whether a request is one -/
def prB (x : WX) : Bool := decide ((prT x).2.2 = 0) && (decide ((prT x).2.1 = (wrL x).length) && smW x (prT x).1)
set_option maxRecDepth 100000 in
theorem prB_iff (x : WX) : prB x = true ↔ prT x = (x, (wrL x).length, 0) := by
  unfold prB
  generalize prT x = T
  obtain ⟨T1, T2, T3⟩ := T
  simp only [Bool.and_eq_true, decide_eq_true_eq, smW_iff, Prod.mk.injEq]
  exact ⟨fun ⟨a, b, c⟩ => ⟨c.symm, b, a⟩, fun ⟨a, b, c⟩ => ⟨c, b, a.symm⟩⟩
end Go.Proofs.YtpfijaojgeceeaaGreatDoor
namespace Go.Proofs.YtpfijaojgeceeaaGreatDoor
open Go.RowKit
set_option linter.unusedVariables false

/-- bytes of a line -/
def LnB (l : List Int) : Prop := ∀ c ∈ l, 32 ≤ c ∧ c ≤ 126
set_option maxRecDepth 100000 in
theorem bhd_snoc (cur : List Int) (b : Int) : bhd (cur ++ [b]) = decide (b = 13) := by unfold bhd; simp
set_option maxRecDepth 100000 in
theorem fld_part (P : WP) (h : HD) (lines : Nat) : ∀ (l : List Int) (cnt : Nat) (cur : List Int), LnB l → bhd cur = false → cnt + l.length ≤ 1024 → fldQ P (.head h lines cnt cur) l = some (.head h lines (cnt + l.length) (cur ++ l)) ∧ bhd (cur ++ l) = false
  | [], cnt, cur, _, hb, _ => ⟨by rw [List.append_nil]; rfl, by rw [List.append_nil]; exact hb⟩
  | b :: r, cnt, cur, hl, hb, hc => by
    have h1 := hl b (by simp)
    rw [List.length_cons] at hc
    have hbad : badB cur b = false := by
      cases e : badB cur b with
      | false => rfl
      | true =>
        rcases (badB_iff cur b).1 e with h2 | h2 | h2
        · rw [hb] at h2; cases h2
        · omega
        · omega
    have e : wst P (.head h lines cnt cur) b = (.head h lines (cnt + 1) (cur ++ [b]), 0) := by
      simp only [wst]
      rw [if_neg (by omega), if_neg (by rw [hb]; simp), if_neg (by rw [hbad]; simp)]
    have hb2 : bhd (cur ++ [b]) = false := by rw [bhd_snoc]; simp; omega
    obtain ⟨g1, g2⟩ := fld_part P h lines r (cnt + 1) (cur ++ [b]) (fun c hc => hl c (by simp [hc])) hb2 (by omega)
    rw [fldQ_cons, e, if_neg (by simp)]
    refine ⟨?_, ?_⟩
    · show fldQ P (.head h lines (cnt + 1) (cur ++ [b])) r = _
      rw [g1, List.length_cons, List.append_assoc]
      congr 2
      omega
    · rw [show cur ++ b :: r = (cur ++ [b]) ++ r from by simp]; exact g2
set_option maxRecDepth 100000 in
/-- a line that is whole -/
theorem fld_line (P : WP) (h : HD) (lines cnt : Nat) (l : List Int) (hl : LnB l) (hc : cnt + l.length + 2 ≤ 1024) (he : (eol P h lines (cnt + l.length + 2) l).2 = 0) : fldQ P (.head h lines cnt []) (l ++ [13, 10]) = some (eol P h lines (cnt + l.length + 2) l).1 := by
  obtain ⟨g1, g2⟩ := fld_part P h lines l cnt [] hl rfl (by omega)
  rw [List.nil_append] at g1 g2
  rw [fldQ_app, g1]
  show fldQ P (.head h lines (cnt + l.length) l) [13, 10] = _
  have hbad : badB l 13 = false := by
    cases e : badB l 13 with
    | false => rfl
    | true =>
      rcases (badB_iff l 13).1 e with h2 | h2 | h2
      · rw [g2] at h2; cases h2
      · omega
      · omega
  have e1 : wst P (.head h lines (cnt + l.length) l) 13 = (.head h lines (cnt + l.length + 1) (l ++ [13]), 0) := by
    simp only [wst]
    rw [if_neg (by omega), if_neg (by rw [g2]; simp), if_neg (by rw [hbad]; simp)]
  have e2 : wst P (.head h lines (cnt + l.length + 1) (l ++ [13])) 10 = eol P h lines (cnt + l.length + 2) l := by
    simp only [wst]
    rw [if_neg (by omega), if_pos (by rw [bhd_snoc]; simp), List.dropLast_concat]
  rw [fldQ_cons, e1, if_neg (by simp)]
  show fldQ P (.head h lines (cnt + l.length + 1) (l ++ [13])) [10] = _
  rw [fldQ_cons, e2, if_neg (by rw [he]; simp)]
  rfl
set_option maxRecDepth 100000 in
/-- pieces -/
theorem pcsI_stay (c : Int) : ∀ l : List Int, c ∉ l → pcsI c l = [l]
  | [], _ => rfl
  | b :: r, h => by
    have h1 : b ≠ c := fun e => h (by simp [e])
    have ih := pcsI_stay c r (fun e => h (by simp [e]))
    unfold pcsI
    rw [if_neg h1, ih]
set_option maxRecDepth 100000 in
theorem pcsI_go (c : Int) : ∀ (l r : List Int), c ∉ l → pcsI c (l ++ c :: r) = l :: pcsI c r
  | [], r, _ => by rw [List.nil_append]; conv => lhs; unfold pcsI; rw [if_pos rfl]
  | b :: l, r, h => by
    have h1 : b ≠ c := fun e => h (by simp [e])
    have ih := pcsI_go c l r (fun e => h (by simp [e]))
    rw [List.cons_append]
    conv => lhs; unfold pcsI
    rw [if_neg h1, ih]
set_option maxRecDepth 100000 in
/-- the first line -/
theorem fst_ok {m t : ByteArray} (hm : strL m = getM ∨ strL m = postM ∨ strL m = putM) (ht : tgB (strL t) = true) : fstV (strL m ++ 32 :: (strL t ++ 32 :: versM)) = some (m, t) := by
  have h32m : (32 : Int) ∉ strL m := by rcases hm with h | h | h <;> rw [h] <;> decide
  have h32t : (32 : Int) ∉ strL t := fun h => by
    unfold tgB at ht
    simp only [Bool.and_eq_true, List.all_eq_true] at ht
    have := ht.2.2.2 32 h
    exact absurd this (by decide)
  have e : pcsI 32 (strL m ++ 32 :: (strL t ++ 32 :: versM)) = [strL m, strL t, versM] := by
    rw [pcsI_go 32 _ _ h32m, pcsI_go 32 _ _ h32t, pcsI_stay 32 versM (by decide)]
  unfold fstV
  rw [e]
  show (if versM = versM ∧ (strL m = getM ∨ strL m = postM ∨ strL m = putM) ∧ tgB (strL t) = true then some (strOf (strL m), strOf (strL t)) else none) = _
  rw [if_pos ⟨rfl, hm, ht⟩, strOf_strL, strOf_strL]
/-- the line of a token -/
def tokH : List Int := [65, 117, 116, 104, 111, 114, 105, 122, 97, 116, 105, 111, 110, 58, 32, 66, 101, 97, 114, 101, 114, 32]
set_option maxRecDepth 100000 in
theorem tok_line (h : HD) (ha : h.auth = false) (k : ByteArray) : furV h (tokH ++ strL k) = ({ h with auth := true, k := k }, 0) := by
  have e1 : colI (tokH ++ strL k) = 13 := by unfold tokH; simp [colI]
  have e2 : (tokH ++ strL k).length = 22 + (strL k).length := by rw [List.length_append]; rfl
  have e3 : (tokH ++ strL k).take 13 = [65, 117, 116, 104, 111, 114, 105, 122, 97, 116, 105, 111, 110] := by unfold tokH; simp
  have e4 : (tokH ++ strL k).getD 14 0 = 32 := by unfold tokH; simp
  have e5 : (tokH ++ strL k).drop 15 = bearV ++ strL k := by unfold tokH bearV; simp
  have en : namI (tokH ++ strL k) = some 13 := by
    unfold namI
    rw [e1, e3]
    rw [if_pos ⟨by decide, by decide, by decide, by rw [e2]; omega, e4⟩]
  unfold furV
  rw [en]
  show sayV h (((tokH ++ strL k).take 13).map lowB) ((tokH ++ strL k).drop 15) = _
  rw [e3, e5]
  unfold sayV
  rw [if_pos (by decide), if_neg]
  · rw [show (bearV ++ strL k).drop 7 = strL k from by unfold bearV; simp, strOf_strL]
  · rw [ha]
    rintro (h1 | h1)
    · cases h1
    · exact h1 (by unfold bearV; simp)
/-- the line of a body's length -/
def lenI : List Int := [67, 111, 110, 116, 101, 110, 116, 45, 76, 101, 110, 103, 116, 104, 58, 32]
set_option maxRecDepth 100000 in
theorem len_line (h : HD) (hl : h.len = false) (he : h.enc = false) (n : Nat) (hn : n ≤ 2048) : furV h (lenI ++ decN n) = ({ h with len := true, n := n }, 0) := by
  have hp := decN_pos n
  have e1 : colI (lenI ++ decN n) = 14 := by unfold lenI; simp [colI]
  have e2 : (lenI ++ decN n).length = 16 + (decN n).length := by rw [List.length_append]; rfl
  have e3 : (lenI ++ decN n).take 14 = [67, 111, 110, 116, 101, 110, 116, 45, 76, 101, 110, 103, 116, 104] := by unfold lenI; simp
  have e4 : (lenI ++ decN n).getD 15 0 = 32 := by unfold lenI; simp
  have e5 : (lenI ++ decN n).drop 16 = decN n := by unfold lenI; simp
  have en : namI (lenI ++ decN n) = some 14 := by
    unfold namI
    rw [e1, e3]
    rw [if_pos ⟨by decide, by decide, by decide, by rw [e2]; omega, e4⟩]
  unfold furV
  rw [en]
  show sayV h (((lenI ++ decN n).take 14).map lowB) ((lenI ++ decN n).drop 16) = _
  rw [e3, e5]
  unfold sayV
  rw [if_neg (by decide), if_neg (by decide), if_pos (by decide), if_neg (by rw [hl, he]; simp), rdD_decN]
  show (if 9223372036854775807 < n then (h, (4 : Int)) else if 2048 < n then (h, 5) else ({ h with len := true, n := n }, 0)) = _
  rw [if_neg (by omega), if_neg (by omega)]
set_option maxRecDepth 100000 in
/-- lines of a head -/
theorem run_line (P : WP) (h : HD) (lines cnt : Nat) (l r : List Int) (k : Nat) (hl : LnB l) (hc : cnt + l.length + 2 ≤ 1024) {s : WS} (he : eol P h lines (cnt + l.length + 2) l = (s, 0)) : runQ P (.head h lines cnt []) ((l ++ [13, 10]) ++ r) k = runQ P s r (k + l.length + 2) := by
  have h1 := fld_line P h lines cnt l hl hc (by rw [he])
  rw [he] at h1
  rw [run_fldQ P _ r _ k _ h1, List.length_append]
  rfl
set_option maxRecDepth 100000 in
theorem eol_more {P : WP} {h h2 : HD} {lines cnt : Nat} {l : List Int} (h1 : 1 ≤ lines) (h16 : lines ≤ 16) (hne : l ≠ []) (hg : P.G h l = (h2, 0)) : eol P h lines cnt l = (.head h2 (lines + 1) cnt [], 0) := by
  unfold eol
  rw [if_neg (by omega), if_neg hne, if_neg (by omega), hg]
set_option maxRecDepth 100000 in
theorem run_end (h : HD) (he : h.enc = false) (lines cnt : Nat) (b : List Int) (k : Nat) (h1 : 1 ≤ lines) (hc : cnt + 2 ≤ 1024) (hn : h.n = b.length) : runQ wp0 (.head h lines cnt []) ([13, 10] ++ b) k = (h.x b, k + 2 + b.length, 0) := by
  have e : eol wp0 h lines (cnt + ([] : List Int).length + 2) [] = (bgQ h, 0) := by unfold eol; rw [if_neg (by omega), if_pos rfl]
  have h2 := run_line wp0 h lines cnt [] b k (fun c hc => by cases hc) (by simpa using hc) e
  rw [List.nil_append] at h2
  rw [h2]
  unfold bgQ
  rw [if_neg (by rw [he]; simp)]
  show runQ wp0 (if h.n = 0 then .done (h.x []) else .fix h h.n []) b (k + 0 + 2) = _
  by_cases h0 : h.n = 0
  · have hb : b = [] := List.eq_nil_of_length_eq_zero (by omega)
    rw [if_pos h0, runQ_done, hb]; rfl
  · rw [if_neg h0, runQ_fix _ _ _ _ _ _ (by omega), if_neg (by omega), List.nil_append, hn, List.take_length]
set_option maxRecDepth 100000 in
theorem app_crlf (a l : List Int) : (a ++ (l ++ [13, 10])).length = a.length + l.length + 2 := by
  simp only [List.length_append, List.length_cons, List.length_nil]
  omega
set_option maxRecDepth 100000 in
theorem str_empty {s : ByteArray} (h : s.size = 0) : s = ⟨#[]⟩ := by
  have e : strL s = [] := List.eq_nil_of_length_eq_zero (by rw [strL_length]; exact h)
  rw [← strOf_strL s, e]; rfl
set_option maxRecDepth 100000 in
theorem lnB_app {l r : List Int} (h : LnB l) (k : LnB r) : LnB (l ++ r) := fun c hc => by
  rcases List.mem_append.1 hc with h1 | h1
  · exact h c h1
  · exact k c h1
set_option maxRecDepth 100000 in
theorem lnB_dec (n : Nat) : LnB (decN n) := fun c hc => by
  have := decN_dig n c hc
  unfold dig at this
  simp at this
  omega
/-- where a reader stands behind lines: what they said -/
structure RS (x : WX) (L : List Int) (kk : ByteArray) (n : Nat) (len : Bool) (top : Nat) (s : HD) (lines : Nat) : Prop where
  run : ∀ r, runQ wp0 ws0 (L ++ r) 0 = runQ wp0 (.head s lines L.length []) r L.length
  m : s.m = x.m
  t : s.t = x.t
  k : s.k = kk
  enc : s.enc = false
  ln : s.len = len
  n : s.n = n
  l1 : 1 ≤ lines
  l2 : lines ≤ top
  au : lines = 1 → s.auth = false
/-- a request that the wire can bear -/
structure WOk (x : WX) : Prop where
  m : strL x.m = getM ∨ strL x.m = postM ∨ strL x.m = putM
  t : tgB (strL x.t) = true
  k : LnB (strL x.k)
  ks : x.k.size ≤ 60
  b : x.b.length ≤ 2048
section
variable {x : WX}
set_option maxRecDepth 100000 in
theorem WOk.tl (h : WOk x) : (strL x.t).length ≤ 64 ∧ LnB (strL x.t) := by
  have ht := h.t
  unfold tgB at ht
  simp only [Bool.and_eq_true, decide_eq_true_eq, List.all_eq_true] at ht
  refine ⟨ht.2.1, fun c hc => ?_⟩
  have := ht.2.2.2 c hc
  unfold tgC at this
  simp at this
  omega
set_option maxRecDepth 100000 in
theorem WOk.ml (h : WOk x) : (strL x.m).length ≤ 4 ∧ LnB (strL x.m) := by
  rcases h.m with e | e | e <;> rw [e]
  · exact ⟨by decide, fun c hc => by simp [getM] at hc; omega⟩
  · exact ⟨by decide, fun c hc => by simp [postM] at hc; omega⟩
  · exact ⟨by decide, fun c hc => by simp [putM] at hc; omega⟩
def fstL (x : WX) : List Int := strL x.m ++ 32 :: (strL x.t ++ 32 :: versM)
set_option maxRecDepth 100000 in
theorem wrA_eq (x : WX) : strL (wrA x) = fstL x ++ [13, 10] := by
  unfold wrA fstL
  simp only [strL_append]
  have e1 : strL (⟨#[32]⟩ : ByteArray) = [32] := rfl
  have e2 : strL (⟨#[72, 84, 84, 80, 47, 49, 46, 49]⟩ : ByteArray) = versM := rfl
  have e3 : strL (⟨#[13, 10]⟩ : ByteArray) = [13, 10] := rfl
  rw [e1, e2, e3]
  simp
set_option maxRecDepth 100000 in
theorem rs_first (h : WOk x) : ∃ s lines, RS x (strL (wrA x)) ⟨#[]⟩ 0 false 1 s lines := by
  have h1 := h.ml
  have h2 := h.tl
  have hl : LnB (fstL x) := by
    unfold fstL
    refine lnB_app h1.2 (fun c hc => ?_)
    rcases List.mem_cons.1 hc with e | e
    · omega
    · rcases List.mem_append.1 e with e | e
      · exact h2.2 c e
      · simp [versM] at e; omega
  have hlen : (fstL x).length ≤ 80 := by
    unfold fstL versM
    simp only [List.length_append, List.length_cons, List.length_nil]
    omega
  have hE : eol wp0 hd0 0 (0 + (fstL x).length + 2) (fstL x) = (.head { hd0 with m := x.m, t := x.t } 1 (0 + (fstL x).length + 2) [], 0) := by
    unfold eol
    rw [if_pos rfl]
    show (match fstV (fstL x) with | none => (WS.head hd0 0 (0 + (fstL x).length + 2) (fstL x), (4 : Int)) | some (m, t) => (.head { hd0 with m := m, t := t } 1 (0 + (fstL x).length + 2) [], 0)) = _
    unfold fstL
    rw [fst_ok h.m h.t]
  refine ⟨{ hd0 with m := x.m, t := x.t }, 1, ⟨fun r => ?_, rfl, rfl, rfl, rfl, rfl, rfl, Nat.le_refl _, Nat.le_refl _, fun _ => rfl⟩⟩
  rw [wrA_eq]
  have := run_line wp0 hd0 0 0 (fstL x) r 0 hl (by omega) hE
  show runQ wp0 (.head hd0 0 0 []) _ 0 = _
  rw [this, List.length_append, Nat.zero_add]
  rfl
set_option maxRecDepth 100000 in
theorem rs_tok (h : WOk x) : ∃ s lines, RS x (strL (wrT x)) x.k 0 false 2 s lines := by
  obtain ⟨s, lines, hs⟩ := rs_first h
  unfold wrT
  by_cases h0 : x.k.size = 0
  · rw [if_pos h0, str_empty h0]
    exact ⟨s, lines, hs.run, hs.m, hs.t, hs.k, hs.enc, hs.ln, hs.n, hs.l1, by have := hs.l2; omega, hs.au⟩
  · rw [if_neg h0]
    have eB : strL (authB x.k) = (tokH ++ strL x.k) ++ [13, 10] := by
      unfold authB
      simp only [strL_append]
      rfl
    have hlB : LnB (tokH ++ strL x.k) := lnB_app (fun c hc => by simp [tokH] at hc; omega) h.k
    have hA : (strL (wrA x)).length ≤ 90 := by
      have h1 := h.ml.1
      have h2 := h.tl.1
      rw [wrA_eq]; unfold fstL versM
      simp only [List.length_append, List.length_cons, List.length_nil]
      omega
    have hT : (tokH ++ strL x.k).length ≤ 82 := by rw [List.length_append, strL_length]; have := h.ks; show 22 + _ ≤ 82; omega
    have hne : tokH ++ strL x.k ≠ [] := by unfold tokH; simp
    have hl1 : lines = 1 := by have := hs.l1; have := hs.l2; omega
    subst hl1
    have hg := tok_line s (hs.au rfl) x.k
    have hE := eol_more (P := wp0) (cnt := (strL (wrA x)).length + (tokH ++ strL x.k).length + 2) (Nat.le_refl 1) (by decide) hne hg
    rw [strL_append, eB]
    refine ⟨{ s with auth := true, k := x.k }, 2, ⟨fun r => ?_, hs.m, hs.t, rfl, hs.enc, hs.ln, hs.n, by decide, Nat.le_refl _, fun e => absurd e (by decide)⟩⟩
    have eL : (strL (wrA x) ++ (tokH ++ strL x.k ++ [13, 10])).length = (strL (wrA x)).length + (tokH ++ strL x.k).length + 2 := app_crlf _ _
    rw [List.append_assoc, hs.run, run_line wp0 s 1 _ _ r _ hlB (by omega) hE, eL]
set_option maxRecDepth 100000 in
theorem wrT_len (h : WOk x) : (strL (wrT x)).length ≤ 180 := by
  have h1 := h.ml.1
  have h2 := h.tl.1
  have h3 := h.ks
  rw [strL_length] at h1 h2 ⊢
  unfold wrT wrA authB
  have e1 : (⟨#[32]⟩ : ByteArray).size = 1 := rfl
  have e2 : (⟨#[72, 84, 84, 80, 47, 49, 46, 49]⟩ : ByteArray).size = 8 := rfl
  have e3 : (⟨#[13, 10]⟩ : ByteArray).size = 2 := rfl
  have e4 : (⟨#[65, 117, 116, 104, 111, 114, 105, 122, 97, 116, 105, 111, 110, 58, 32, 66, 101, 97, 114, 101, 114, 32]⟩ : ByteArray).size = 22 := rfl
  split
  · simp only [size_append, e1, e2, e3]; omega
  · simp only [size_append, e1, e2, e3, e4]; omega
set_option maxRecDepth 100000 in
theorem rs_len (h : WOk x) : ∃ s lines len, RS x (strL (wrN x)) x.k x.b.length len 3 s lines := by
  obtain ⟨s, lines, hs⟩ := rs_tok h
  unfold wrN
  by_cases h0 : x.b.length = 0
  · rw [if_pos h0, h0]
    exact ⟨s, lines, _, hs.run, hs.m, hs.t, hs.k, hs.enc, hs.ln, hs.n, hs.l1, by have := hs.l2; omega, hs.au⟩
  · rw [if_neg h0]
    have hb := h.b
    have eB : strL (lenB x.b.length) = (lenI ++ decN x.b.length) ++ [13, 10] := by
      unfold lenB lenH
      simp only [strL_append]
      rw [decB_eq, strL_strOf (decN_byt _)]
      rfl
    have hlB : LnB (lenI ++ decN x.b.length) := lnB_app (fun c hc => by simp [lenI] at hc; omega) (lnB_dec _)
    have hd := decN_le x.b.length (by omega)
    have hT := wrT_len h
    have hL : (lenI ++ decN x.b.length).length ≤ 22 := by rw [List.length_append]; show 16 + _ ≤ 22; omega
    have hne : lenI ++ decN x.b.length ≠ [] := by unfold lenI; simp
    have hg := len_line s hs.ln hs.enc x.b.length hb
    have hE := eol_more (P := wp0) (cnt := (strL (wrT x)).length + (lenI ++ decN x.b.length).length + 2) hs.l1 (by have := hs.l2; omega) hne hg
    rw [strL_append, eB]
    refine ⟨{ s with len := true, n := x.b.length }, lines + 1, true, ⟨fun r => ?_, hs.m, hs.t, hs.k, hs.enc, rfl, rfl, Nat.succ_pos _, by have := hs.l2; omega, fun e => by have := hs.l1; omega⟩⟩
    have eL : (strL (wrT x) ++ (lenI ++ decN x.b.length ++ [13, 10])).length = (strL (wrT x)).length + (lenI ++ decN x.b.length).length + 2 := app_crlf _ _
    rw [List.append_assoc, hs.run, run_line wp0 s lines _ _ r _ hlB (by omega) hE, eL]
set_option maxRecDepth 100000 in
theorem wrN_len (h : WOk x) : (strL (wrN x)).length ≤ 210 := by
  have h1 := wrT_len h
  have hb := h.b
  have h2 := lenB_size x.b.length (by omega)
  rw [strL_length] at h1 ⊢
  unfold wrN
  split
  · omega
  · rw [size_append]; omega
set_option maxRecDepth 100000 in
/-- what is written is read -/
theorem pr_ok (h : WOk x) : prB x = true := by
  rw [prB_iff]
  obtain ⟨s, lines, len, hs⟩ := rs_len h
  have hN := wrN_len h
  have e : wrL x = strL (wrN x) ++ ([13, 10] ++ x.b) := by
    unfold wrL wrB
    rw [strL_append, List.append_assoc]
    rfl
  unfold prT
  rw [e, hs.run, run_end s hs.enc lines _ x.b _ hs.l1 (by omega) hs.n]
  have ex : s.x x.b = x := by
    unfold HD.x
    rw [hs.m, hs.t, hs.k]
  rw [ex, List.length_append, List.length_append]
  show (x, (strL (wrN x)).length + 2 + x.b.length, (0 : Int)) = (x, (strL (wrN x)).length + (2 + x.b.length), 0)
  rw [Nat.add_assoc]
end
end Go.Proofs.YtpfijaojgeceeaaGreatDoor
namespace Go.Proofs.YtpfijaojgeceeaaGreatDoor
open Go.RowKit
set_option linter.unusedVariables false
open Go.Lib (decDigits)

set_option maxRecDepth 100000 in
theorem splitU (c b : UInt8) (r : List UInt8) : splitL c (b :: r) = if b = c then [] :: splitL c r else match splitL c r with | [] => [[b]] | p :: ps => (b :: p) :: ps := by
  first | rfl | (unfold splitL; rfl)
set_option maxRecDepth 100000 in
theorem split_mem (c : UInt8) : ∀ (l : List UInt8) (y : UInt8), y ∈ l → y = c ∨ ∃ p ∈ splitL c l, y ∈ p
  | [], y, h => by cases h
  | b :: r, y, h => by
    by_cases hb : b = c
    · rcases List.mem_cons.1 h with e | e
      · exact .inl (e.trans hb)
      · rcases split_mem c r y e with h1 | ⟨p, h1, h2⟩
        · exact .inl h1
        · exact .inr ⟨p, by rw [splitU, if_pos hb]; exact List.mem_cons_of_mem _ h1, h2⟩
    · cases hs : splitL c r with
      | nil => exact absurd hs (splitL_ne c r)
      | cons q qs =>
        have e0 : splitL c (b :: r) = (b :: q) :: qs := by rw [splitU, if_neg hb, hs]
        rw [e0]
        rcases List.mem_cons.1 h with e | e
        · exact .inr ⟨b :: q, by simp, by rw [e]; simp⟩
        · rcases split_mem c r y e with h1 | ⟨p, h1, h2⟩
          · exact .inl h1
          · rw [hs] at h1
            rcases List.mem_cons.1 h1 with e1 | e1
            · exact .inr ⟨b :: q, by simp, by rw [← e1]; simp [h2]⟩
            · exact .inr ⟨p, by simp [e1], h2⟩
set_option maxRecDepth 100000 in
theorem split_sum (c : UInt8) : ∀ l : List UInt8, ((splitL c l).map (fun p => p.length + 1)).sum = l.length + 1
  | [] => rfl
  | b :: r => by
    have ih := split_sum c r
    by_cases hb : b = c
    · rw [splitU, if_pos hb]
      simp only [List.map_cons, List.sum_cons, List.length_nil, List.length_cons, ih]
      omega
    · cases hs : splitL c r with
      | nil => exact absurd hs (splitL_ne c r)
      | cons q qs =>
        rw [splitU, if_neg hb, hs]
        rw [hs] at ih
        simp only [List.map_cons, List.sum_cons, List.length_cons] at ih ⊢
        omega
set_option maxRecDepth 100000 in
theorem split_first (c : UInt8) {l : List UInt8} {P : List (List UInt8)} (h : splitL c l = [] :: P) (hP : P ≠ []) : ∃ r, l = c :: r := by
  cases l with
  | nil =>
    exfalso
    have e : splitL c [] = [[]] := rfl
    rw [e] at h
    exact hP (List.cons.inj h).2.symm
  | cons b r =>
    by_cases hb : b = c
    · exact ⟨r, by rw [hb]⟩
    · exfalso
      rw [splitU, if_neg hb] at h
      cases hs : splitL c r with
      | nil => exact absurd hs (splitL_ne c r)
      | cons q qs => rw [hs] at h; cases h
/-- a piece of a target -/
def PcO (p : ByteArray) (n : Nat) : Prop := p.data.toList.length ≤ n ∧ ∀ y ∈ p.data.toList, tgC (y.toNat : Int) = true
set_option maxRecDepth 100000 in
theorem name_pc {p : ByteArray} (h : nameB p = true) : PcO p 16 := by
  obtain ⟨h1, h2, _, h4⟩ := (nameB_iff p).1 h
  rw [Lib.size_eq] at h2 h4
  refine ⟨h2, fun y hy => ?_⟩
  obtain ⟨j, hj, e⟩ := List.getElem_of_mem hy
  have := h4 j hj
  have hs : sb p j = (y.toNat : Int) := by unfold sb; rw [List.getD_eq_getElem?_getD, List.getElem?_eq_getElem hj, e]; rfl
  rw [hs] at this
  unfold isNamed isLet isDig at this
  unfold tgC
  simp only [Bool.or_eq_true, Bool.and_eq_true, decide_eq_true_eq] at this ⊢
  omega
set_option maxRecDepth 100000 in
theorem digs_pc : ∀ (m : Nat), ∀ c ∈ decDigits m, 48 ≤ c.toNat ∧ c.toNat ≤ 57 := by
  intro m
  induction m using Nat.strongRecOn with
  | _ m ih =>
    intro c hc
    by_cases h : m < 10
    · rw [Lib.decDigits_one h] at hc
      rw [List.mem_singleton.1 hc, dig_toNat h]; omega
    · rw [decDigits_big h] at hc
      rcases List.mem_append.1 hc with h1 | h1
      · exact ih (m / 10) (by omega) c h1
      · rw [List.mem_singleton.1 h1, dig_toNat (Nat.mod_lt m (by decide))]
        have := Nat.mod_lt m (show 0 < 10 by decide)
        omega
set_option maxRecDepth 100000 in
theorem num_pc {p : ByteArray} {n : Int} (h : rdB p = some n) : PcO p 21 := by
  obtain ⟨h1, h2, h3⟩ := rd_back h
  obtain ⟨m, rfl, hm, hl⟩ := rdv_some h
  refine ⟨?_, fun y hy => ?_⟩
  · have := decS_size (n := (m : Int)) (by omega) h3
    rw [h1, Lib.size_eq] at this
    exact this
  · have e : p.data.toList = decDigits m := hl
    rw [e] at hy
    have := digs_pc m y hy
    unfold tgC
    simp only [Bool.or_eq_true, Bool.and_eq_true, decide_eq_true_eq]
    omega
/-- the words -/
def wds : List ByteArray := [wHead, wUsage, wUp, wHist, wSpecs, wJobs, wHeads, wEnts, wGrow]
set_option maxRecDepth 100000 in
theorem word_pc {x : ByteArray} (h : x ∈ wds) : PcO x 9 := by
  have key : wds.all (fun x => decide (x.data.toList.length ≤ 9) && x.data.toList.all (fun y => tgC (y.toNat : Int))) = true := by decide
  have := List.all_eq_true.1 key x h
  simp only [Bool.and_eq_true, decide_eq_true_eq, List.all_eq_true] at this
  exact this
set_option maxRecDepth 100000 in
theorem tg0_w {x : ByteArray} {a : As} (h : tg0 x = some a) : x ∈ wds := by
  unfold tg0 at h
  split at h
  · rename_i e; rw [e]; simp [wds]
  · split at h
    · rename_i e; rw [e]; simp [wds]
    · cases h
set_option maxRecDepth 100000 in
theorem tg1N_w {x p : ByteArray} {a : As} (h : tg1N x p = some a) : x ∈ wds := by
  unfold tg1N at h
  split at h
  · rename_i e; rw [e]; simp [wds]
  · split at h
    · rename_i e; rw [e]; simp [wds]
    · split at h
      · rename_i e; rw [e]; simp [wds]
      · cases h
set_option maxRecDepth 100000 in
theorem tg1D_w {x : ByteArray} {n : Int} {a : As} (h : tg1D x n = some a) : x ∈ wds := by
  unfold tg1D at h
  split at h
  · rename_i e; rw [e]; simp [wds]
  · split at h
    · rename_i e; rw [e]; simp [wds]
    · cases h
set_option maxRecDepth 100000 in
theorem tg2D_w {x : ByteArray} {n m : Int} {a : As} (h : tg2D x n m = some a) : x ∈ wds := by
  unfold tg2D at h
  split at h
  · rename_i e; rw [e]; simp [wds]
  · split at h
    · rename_i e; rw [e]; simp [wds]
    · cases h
set_option maxRecDepth 100000 in
theorem sum_le : ∀ (Q : List (List UInt8)), (∀ q ∈ Q, q.length ≤ 21) → (Q.map (fun p => p.length + 1)).sum ≤ 22 * Q.length
  | [], _ => Nat.le_refl _
  | q :: Q, h => by
    have h1 := h q (by simp)
    have h2 := sum_le Q (fun p hp => h p (by simp [hp]))
    simp only [List.map_cons, List.sum_cons, List.length_cons]
    omega
set_option maxRecDepth 100000 in
/-- pieces of a target, each of which may stand there -/
theorem tgt_of {t : ByteArray} {x : ByteArray} {P : List ByteArray} (h : pcs 47 t = ⟨#[]⟩ :: x :: P) (hx : PcO x 9) (hP : ∀ p ∈ P, PcO p 21) (hl : P.length ≤ 2) : tgB (strL t) = true := by
  have hmap : (splitL 47 t.data.toList).map mkB = ⟨#[]⟩ :: x :: P := h
  have hsum := split_sum 47 t.data.toList
  have hmem := split_mem 47 t.data.toList
  cases hs : splitL 47 t.data.toList with
  | nil => exact absurd hs (splitL_ne _ _)
  | cons q0 qs =>
    rw [hs, List.map_cons] at hmap
    obtain ⟨e0, e1⟩ := List.cons.inj hmap
    have hq0 : q0 = [] := by
      have := congrArg (fun b : ByteArray => b.data.toList) e0
      simpa [mkB] using this
    subst hq0
    cases qs with
    | nil => cases e1
    | cons q1 Q =>
      rw [List.map_cons] at e1
      obtain ⟨e2, e3⟩ := List.cons.inj e1
      obtain ⟨r, hr⟩ := split_first 47 hs (by simp)
      have hb1 : PcO (mkB q1) 9 := by rw [e2]; exact hx
      have hbQ : ∀ q ∈ Q, PcO (mkB q) 21 := fun q hq => hP _ (by rw [← e3]; exact List.mem_map_of_mem hq)
      have hQl : Q.length ≤ 2 := by rw [← e3, List.length_map] at hl; exact hl
      have hlen : t.data.toList.length ≤ 60 := by
        rw [hs] at hsum
        simp only [List.map_cons, List.sum_cons, List.length_nil] at hsum
        have h1 : q1.length ≤ 9 := hb1.1
        have h2 := sum_le Q (fun q hq => (hbQ q hq).1)
        omega
      have hall : ∀ y ∈ t.data.toList, tgC (y.toNat : Int) = true := fun y hy => by
        rcases hmem y hy with e | ⟨p, hp, hyp⟩
        · rw [e]; decide
        · rw [hs] at hp
          rcases List.mem_cons.1 hp with e | hp
          · rw [e] at hyp; cases hyp
          rcases List.mem_cons.1 hp with e | hp
          · rw [e] at hyp; exact hb1.2 y hyp
          · exact (hbQ p hp).2 y hyp
      unfold tgB
      have eL : (strL t).length = t.data.toList.length := by unfold strL; rw [List.length_map]
      have e4 : (strL t).getD 0 0 = 47 := by unfold strL; rw [hr]; rfl
      have e5 : 1 ≤ (strL t).length := by rw [eL, hr, List.length_cons]; omega
      simp only [Bool.and_eq_true, decide_eq_true_eq, List.all_eq_true]
      refine ⟨e5, by omega, e4, fun c hc => ?_⟩
      unfold strL at hc
      obtain ⟨y, hy, rfl⟩ := List.mem_map.1 hc
      exact hall y hy
set_option maxRecDepth 100000 in
theorem PcO.mono {p : ByteArray} {n m : Nat} (h : PcO p n) (hm : n ≤ m) : PcO p m := ⟨Nat.le_trans h.1 hm, h.2⟩
set_option maxRecDepth 100000 in
/-- what asks anything is a target -/
theorem tgV_tgt {t : ByteArray} {a : As} (h : tgV t = some a) : tgB (strL t) = true := by
  unfold tgV at h
  cases hp : pcs 47 t with
  | nil => rw [hp] at h; cases h
  | cons e l1 =>
    rw [hp] at h
    cases l1 with
    | nil => cases h
    | cons x l2 =>
      by_cases he : e = ⟨#[]⟩
      · subst he
        cases l2 with
        | nil =>
          have h : (if (⟨#[]⟩ : ByteArray) = ⟨#[]⟩ then tg0 x else none) = some a := h
          rw [if_pos rfl] at h
          exact tgt_of hp (word_pc (tg0_w h)) (fun p hp => by cases hp) (by simp)
        | cons p l3 =>
          cases l3 with
          | nil =>
            have h : (if (⟨#[]⟩ : ByteArray) = ⟨#[]⟩ then (if nameB p = true then tg1N x p else match rdB p with | some n => tg1D x n | none => none) else none) = some a := h
            rw [if_pos rfl] at h
            by_cases hn : nameB p = true
            · rw [if_pos hn] at h
              exact tgt_of hp (word_pc (tg1N_w h)) (fun q hq => by rw [List.mem_singleton.1 hq]; exact (name_pc hn).mono (by decide)) (by simp)
            · rw [if_neg hn] at h
              cases hr : rdB p with
              | none => rw [hr] at h; cases h
              | some n =>
                rw [hr] at h
                exact tgt_of hp (word_pc (tg1D_w h)) (fun q hq => by rw [List.mem_singleton.1 hq]; exact num_pc hr) (by simp)
          | cons q l4 =>
            cases l4 with
            | nil =>
              have h : (if (⟨#[]⟩ : ByteArray) = ⟨#[]⟩ then (if nameB p = true ∧ nameB q = true ∧ x = wJobs then some (⟨4, p, q, [], 0, 0⟩ : As) else match rdB p, rdB q with | some n, some m => tg2D x n m | _, _ => none) else none) = some a := h
              rw [if_pos rfl] at h
              by_cases hn : nameB p = true ∧ nameB q = true ∧ x = wJobs
              · refine tgt_of hp (word_pc (by rw [hn.2.2]; simp [wds])) (fun y hy => ?_) (by simp)
                rcases List.mem_cons.1 hy with e | e
                · rw [e]; exact (name_pc hn.1).mono (by decide)
                · rw [List.mem_singleton.1 e]; exact (name_pc hn.2.1).mono (by decide)
              · rw [if_neg hn] at h
                cases hr : rdB p with
                | none => rw [hr] at h; cases h
                | some n =>
                  cases hr2 : rdB q with
                  | none => rw [hr, hr2] at h; cases h
                  | some m =>
                    rw [hr, hr2] at h
                    refine tgt_of hp (word_pc (tg2D_w h)) (fun y hy => ?_) (by simp)
                    rcases List.mem_cons.1 hy with e | e
                    · rw [e]; exact num_pc hr
                    · rw [List.mem_singleton.1 e]; exact num_pc hr2
            | cons q2 l5 => cases h
      · exfalso
        cases l2 with
        | nil => have h : (if e = ⟨#[]⟩ then tg0 x else none) = some a := h; rw [if_neg he] at h; cases h
        | cons p l3 =>
          cases l3 with
          | nil => have h : (if e = ⟨#[]⟩ then (if nameB p = true then tg1N x p else match rdB p with | some n => tg1D x n | none => none) else none) = some a := h; rw [if_neg he] at h; cases h
          | cons q l4 =>
            cases l4 with
            | nil => have h : (if e = ⟨#[]⟩ then (if nameB p = true ∧ nameB q = true ∧ x = wJobs then some (⟨4, p, q, [], 0, 0⟩ : As) else match rdB p, rdB q with | some n, some m => tg2D x n m | _, _ => none) else none) = some a := h; rw [if_neg he] at h; cases h
            | cons q2 l5 => cases h
set_option maxRecDepth 100000 in
theorem mthK_m (k : Int) : strL (mthK k) = getM ∨ strL (mthK k) = postM ∨ strL (mthK k) = putM := by
  unfold mthK
  split
  · exact .inr (.inr rfl)
  · split
    · exact .inr (.inl rfl)
    · exact .inl rfl
set_option maxRecDepth 100000 in
/-- what Print answers can be borne by the wire, with any token, if its body is not too long -/
theorem prt_wok {a : As} (h : (prtV a).2 = 0) {k : ByteArray} (hk : LnB (strL k)) (hks : k.size ≤ 60) (hb : (prtX a).b.length ≤ 2048) : prB ⟨(prtX a).m, (prtX a).t, k, (prtX a).b⟩ = true := by
  obtain ⟨h1, _⟩ := prtV_ok h
  refine pr_ok ⟨mthK_m _, ?_, hk, hks, hb⟩
  unfold parV at h1
  cases e : tgV (prtX a).t with
  | none =>
    rw [e] at h1
    have h2 := (Prod.mk.inj h1).2
    exact absurd h2 (by decide)
  | some a2 => exact tgV_tgt e
end Go.Proofs.YtpfijaojgeceeaaGreatDoor
