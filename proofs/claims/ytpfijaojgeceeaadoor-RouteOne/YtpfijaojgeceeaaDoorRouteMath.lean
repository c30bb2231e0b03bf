/- What a target asks, what a request asks, which request asks anything. No walk. -/
import Derived.Test.YtpfijaojgeceeaaDoorAsDef
import Derived.Test.YtpfijaojgeceeaaDoorWireMath
import Derived.Test.YtpfijaojgeceeaaDoorName
import Derived.Test.YtpfijaojgeceeaaDoorFieldMath
import Derived.Test.YtpfijaojgeceeaaDoorBackMath
import Derived.Test.YtpfijaojgeceeaaDoorRefDec
namespace Go.Proofs.YtpfijaojgeceeaaDoor
open Go.RowKit
set_option linter.unusedVariables false

/-- the words -/
def wHead : ByteArray := ⟨#[104, 101, 97, 100]⟩
def wUsage : ByteArray := ⟨#[117, 115, 97, 103, 101]⟩
def wUp : ByteArray := ⟨#[117, 112, 108, 111, 97, 100, 115]⟩
def wHist : ByteArray := ⟨#[104, 105, 115, 116, 111, 114, 105, 101, 115]⟩
def wSpecs : ByteArray := ⟨#[115, 112, 101, 99, 115]⟩
def wJobs : ByteArray := ⟨#[106, 111, 98, 115]⟩
def wHeads : ByteArray := ⟨#[104, 101, 97, 100, 115]⟩
def wEnts : ByteArray := ⟨#[101, 110, 116, 114, 105, 101, 115]⟩
def wGrow : ByteArray := ⟨#[103, 114, 111, 119, 116, 104]⟩
def mGet : ByteArray := ⟨#[71, 69, 84]⟩
def mPut : ByteArray := ⟨#[80, 85, 84]⟩
def mPost : ByteArray := ⟨#[80, 79, 83, 84]⟩
/-- which method a kind has -/
def mthK (k : Int) : ByteArray := if k = 1 ∨ k = 3 then mPut else if k = 2 ∨ k = 4 then mPost else mGet
/-- what pieces of a target ask -/
def tg0 (x : ByteArray) : Option As := if x = wHead then some ⟨10, ⟨#[]⟩, ⟨#[]⟩, [], 0, 0⟩ else if x = wUsage then some ⟨9, ⟨#[]⟩, ⟨#[]⟩, [], 0, 0⟩ else none
def tg1N (x p : ByteArray) : Option As := if x = wUp then some ⟨1, p, ⟨#[]⟩, [], 0, 0⟩ else if x = wHist then some ⟨2, p, ⟨#[]⟩, [], 0, 0⟩ else if x = wSpecs then some ⟨3, p, ⟨#[]⟩, [], 0, 0⟩ else none
def tg1D (x : ByteArray) (n : Int) : Option As := if x = wJobs then some ⟨5, ⟨#[]⟩, ⟨#[]⟩, [], n, 0⟩ else if x = wHeads then some ⟨6, ⟨#[]⟩, ⟨#[]⟩, [], n, 0⟩ else none
def tg2D (x : ByteArray) (n m : Int) : Option As := if x = wEnts then some ⟨7, ⟨#[]⟩, ⟨#[]⟩, [], n, m⟩ else if x = wGrow then some ⟨8, ⟨#[]⟩, ⟨#[]⟩, [], n, m⟩ else none
def rdB (p : ByteArray) : Option Int := rdv p.data.toList
def tgL : List ByteArray → Option As
  | [e, x] => if e = ⟨#[]⟩ then tg0 x else none
  | [e, x, p] => if e = ⟨#[]⟩ then (if nameB p = true then tg1N x p else match rdB p with | some n => tg1D x n | none => none) else none
  | [e, x, p, q] => if e = ⟨#[]⟩ then (if nameB p = true ∧ nameB q = true ∧ x = wJobs then some ⟨4, p, q, [], 0, 0⟩ else match rdB p, rdB q with | some n, some m => tg2D x n m | _, _ => none) else none
  | _ => none
def tgV (t : ByteArray) : Option As := tgL (pcs 47 t)
/-- what a request asks, or which status it is told -/
def parV (x : WX) : As × Int := match tgV x.t with
  | none => (as0, 404)
  | some a => if x.m = mthK a.k then (if a.k = 1 ∨ a.k = 3 then ⟨a.k, a.nm, a.sp, x.b, a.A, a.B⟩ else a, 200) else (as0, 405)
set_option maxRecDepth 100000 in
/-- a name is no number -/
theorem name_nonum {p : ByteArray} (h : nameB p = true) : rdB p = none := by
  unfold rdB
  cases e : rdv p.data.toList with
  | none => rfl
  | some v =>
    exfalso
    obtain ⟨h1, h2, h3⟩ := rd_back e
    have hn := (nameB_iff p).1 h
    obtain ⟨m, rfl, hm, hl⟩ := rdv_some e
    obtain ⟨c, r, hd, hc1, hc2⟩ := dec_head m
    have h0 : sb p 0 = (c.toNat : Int) := by
      unfold sb
      rw [show p.data.toList = c :: r from by rw [hl, hd]]
      rfl
    have hlet := hn.2.2.1
    rw [h0] at hlet
    unfold isLet at hlet
    simp at hlet
    omega
/-- the request that asks -/
def tgtP (a : As) : ByteArray :=
  if a.k = 1 then ⟨#[47, 117, 112, 108, 111, 97, 100, 115, 47]⟩ ++ a.nm else if a.k = 2 then ⟨#[47, 104, 105, 115, 116, 111, 114, 105, 101, 115, 47]⟩ ++ a.nm else if a.k = 3 then ⟨#[47, 115, 112, 101, 99, 115, 47]⟩ ++ a.nm else
  if a.k = 4 then ⟨#[47, 106, 111, 98, 115, 47]⟩ ++ a.nm ++ ⟨#[47]⟩ ++ a.sp else if a.k = 5 then ⟨#[47, 106, 111, 98, 115, 47]⟩ ++ decS a.A else if a.k = 6 then ⟨#[47, 104, 101, 97, 100, 115, 47]⟩ ++ decS a.A else
  if a.k = 7 then ⟨#[47, 101, 110, 116, 114, 105, 101, 115, 47]⟩ ++ decS a.A ++ ⟨#[47]⟩ ++ decS a.B else if a.k = 8 then ⟨#[47, 103, 114, 111, 119, 116, 104, 47]⟩ ++ decS a.A ++ ⟨#[47]⟩ ++ decS a.B else
  if a.k = 9 then ⟨#[47, 117, 115, 97, 103, 101]⟩ else if a.k = 10 then ⟨#[47, 104, 101, 97, 100]⟩ else ⟨#[]⟩
def prtX (a : As) : WX := ⟨mthK a.k, tgtP a, ⟨#[]⟩, if a.k = 1 ∨ a.k = 3 then a.b else []⟩
/-- two asks are one -/
def asE (a b : As) : Bool := decide (a.k = b.k) && (decide (a.nm = b.nm) && (decide (a.sp = b.sp) && (decide (a.A = b.A) && (decide (a.B = b.B) && decide (a.b = b.b)))))
set_option maxRecDepth 100000 in
theorem asE_iff (a b : As) : asE a b = true ↔ a = b := by
  obtain ⟨a1, a2, a3, a4, a5, a6⟩ := a
  obtain ⟨b1, b2, b3, b4, b5, b6⟩ := b
  unfold asE
  simp only [Bool.and_eq_true, decide_eq_true_eq, As.mk.injEq]
  constructor
  · rintro ⟨h1, h2, h3, h4, h5, h6⟩; exact ⟨h1, h2, h3, h6, h4, h5⟩
  · rintro ⟨h1, h2, h3, h6, h4, h5⟩; exact ⟨h1, h2, h3, h4, h5, h6⟩
/-- is it asked so -/
def prtOk (a : As) : Bool := decide ((parV (prtX a)).2 = 200) && asE a (parV (prtX a)).1
set_option maxRecDepth 100000 in
theorem prtOk_iff (a : As) : prtOk a = true ↔ parV (prtX a) = (a, 200) := by
  unfold prtOk
  rw [Bool.and_eq_true, decide_eq_true_eq, asE_iff]
  constructor
  · rintro ⟨h1, h2⟩; exact Prod.ext h2.symm h1
  · intro h; rw [h]; exact ⟨rfl, rfl⟩
/-- Print: the request, or none -/
def prtV (a : As) : WX × Int := if prtOk a = true then (prtX a, 0) else (wx0, 2)
set_option maxRecDepth 100000 in
theorem prtV_ok {a : As} (h : (prtV a).2 = 0) : parV (prtX a) = (a, 200) ∧ (prtV a).1 = prtX a := by
  unfold prtV at h ⊢
  by_cases hc : prtOk a = true
  · rw [if_pos hc]; exact ⟨(prtOk_iff a).1 hc, rfl⟩
  · rw [if_neg hc] at h; cases h
set_option maxRecDepth 100000 in
theorem prtV_no {a : As} (h : (prtV a).2 ≠ 0) : prtV a = (wx0, 2) := by
  unfold prtV at h ⊢
  by_cases hc : prtOk a = true
  · rw [if_pos hc] at h; exact absurd rfl h
  · rw [if_neg hc]
set_option maxRecDepth 100000 in
/-- no two asks have one request -/
theorem prtV_one {a b : As} (ha : (prtV a).2 = 0) (hb : (prtV b).2 = 0) : (prtV a).1 = (prtV b).1 ↔ a = b := by
  obtain ⟨a1, a2⟩ := prtV_ok ha
  obtain ⟨b1, b2⟩ := prtV_ok hb
  constructor
  · intro h
    rw [a2, b2] at h
    rw [h, b1] at a1
    exact (Prod.mk.inj a1).1.symm
  · intro h; rw [h]
end Go.Proofs.YtpfijaojgeceeaaDoor
