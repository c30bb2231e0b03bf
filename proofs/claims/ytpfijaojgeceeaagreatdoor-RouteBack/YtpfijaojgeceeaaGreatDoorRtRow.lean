/- The table of targets, read row by row: the same as what a target asks. No walk. -/
import Derived.Test.YtpfijaojgeceeaaGreatDoorAuap
import Derived.Test.YtpfijaojgeceeaaGreatDoorAuam
namespace Go.Proofs.YtpfijaojgeceeaaGreatDoor
open Go.RowKit
set_option linter.unusedVariables false

/-- a row of the table -/
structure Rt where
  k : Int
  m : ByteArray
  f : ByteArray
  h : Bool
def wNm : ByteArray := ⟨#[78, 65, 77, 69]⟩
def wSp : ByteArray := ⟨#[83, 80, 69, 67]⟩
def wA : ByteArray := ⟨#[65]⟩
def wB : ByteArray := ⟨#[66]⟩
def rt0 : Rt := ⟨0, ⟨#[]⟩, ⟨#[]⟩, false⟩
def rt1 : Rt := ⟨1, mPut, ⟨#[47, 117, 112, 108, 111, 97, 100, 115, 47, 78, 65, 77, 69]⟩, true⟩
def rt2 : Rt := ⟨2, mPost, ⟨#[47, 104, 105, 115, 116, 111, 114, 105, 101, 115, 47, 78, 65, 77, 69]⟩, false⟩
def rt3 : Rt := ⟨3, mPut, ⟨#[47, 115, 112, 101, 99, 115, 47, 78, 65, 77, 69]⟩, true⟩
def rt4 : Rt := ⟨4, mPost, ⟨#[47, 106, 111, 98, 115, 47, 78, 65, 77, 69, 47, 83, 80, 69, 67]⟩, false⟩
def rt5 : Rt := ⟨5, mGet, ⟨#[47, 106, 111, 98, 115, 47, 65]⟩, false⟩
def rt6 : Rt := ⟨10, mGet, ⟨#[47, 104, 101, 97, 100]⟩, false⟩
def rt7 : Rt := ⟨6, mGet, ⟨#[47, 104, 101, 97, 100, 115, 47, 65]⟩, false⟩
def rt8 : Rt := ⟨7, mGet, ⟨#[47, 101, 110, 116, 114, 105, 101, 115, 47, 65, 47, 66]⟩, false⟩
def rt9 : Rt := ⟨8, mGet, ⟨#[47, 103, 114, 111, 119, 116, 104, 47, 65, 47, 66]⟩, false⟩
def rt10 : Rt := ⟨9, mGet, ⟨#[47, 117, 115, 97, 103, 101]⟩, false⟩
/-- all rows -/
def rtL : List Rt := [rt1, rt2, rt3, rt4, rt5, rt6, rt7, rt8, rt9, rt10]
/-- the pieces of a row's form -/
def ptsR (r : Rt) : List ByteArray := fL 47 r.f 4
/-- a piece is taken -/
def rdPc (a : As) (p q : ByteArray) : As × Bool :=
  if p = wNm then (⟨a.k, q, a.sp, a.b, a.A, a.B⟩, nameB q) else
  if p = wSp then (⟨a.k, a.nm, q, a.b, a.A, a.B⟩, nameB q) else
  if p = wA then (⟨a.k, a.nm, a.sp, a.b, (rdB q).getD 0, a.B⟩, (rdB q).isSome) else
  if p = wB then (⟨a.k, a.nm, a.sp, a.b, a.A, (rdB q).getD 0⟩, (rdB q).isSome) else (a, decide (q = p))
def rdAll : As → List ByteArray → List ByteArray → Option As
  | a, p :: P, q :: Q => if (rdPc a p q).2 = true then rdAll (rdPc a p q).1 P Q else none
  | a, [], _ => some a
  | _, _ :: _, [] => none
/-- what pieces ask by a row -/
def rowRd (r : Rt) (Q : List ByteArray) : Option As := if Q.length = (ptsR r).length then rdAll ⟨r.k, ⟨#[]⟩, ⟨#[]⟩, [], 0, 0⟩ (ptsR r) Q else none
/-- the first row that is read -/
def rtFind : List Rt → List ByteArray → Option (Rt × As)
  | [], _ => none
  | r :: R, Q => match rowRd r Q with | some a => some (r, a) | none => rtFind R Q
/-- what a request asks, by the table -/
def rtPar (x : WX) : As × Int := match rtFind rtL (fL 47 x.t 4) with
  | none => (as0, 404)
  | some (r, a) => if x.m = r.m then (if r.h = true then ⟨a.k, a.nm, a.sp, x.b, a.A, a.B⟩ else a, 200) else (as0, 405)
def rtTg (Q : List ByteArray) : Option (Rt × As) := rtFind rtL Q
set_option maxRecDepth 100000 in
theorem pts1 : ptsR rt1 = [⟨#[]⟩, wUp, wNm] := by decide +kernel
set_option maxRecDepth 100000 in
theorem pts2 : ptsR rt2 = [⟨#[]⟩, wHist, wNm] := by decide +kernel
set_option maxRecDepth 100000 in
theorem pts3 : ptsR rt3 = [⟨#[]⟩, wSpecs, wNm] := by decide +kernel
set_option maxRecDepth 100000 in
theorem pts4 : ptsR rt4 = [⟨#[]⟩, wJobs, wNm, wSp] := by decide +kernel
set_option maxRecDepth 100000 in
theorem pts5 : ptsR rt5 = [⟨#[]⟩, wJobs, wA] := by decide +kernel
set_option maxRecDepth 100000 in
theorem pts6 : ptsR rt6 = [⟨#[]⟩, wHead] := by decide +kernel
set_option maxRecDepth 100000 in
theorem pts7 : ptsR rt7 = [⟨#[]⟩, wHeads, wA] := by decide +kernel
set_option maxRecDepth 100000 in
theorem pts8 : ptsR rt8 = [⟨#[]⟩, wEnts, wA, wB] := by decide +kernel
set_option maxRecDepth 100000 in
theorem pts9 : ptsR rt9 = [⟨#[]⟩, wGrow, wA, wB] := by decide +kernel
set_option maxRecDepth 100000 in
theorem pts10 : ptsR rt10 = [⟨#[]⟩, wUsage] := by decide +kernel
/-- a word, no place of a field -/
structure NoF (p : ByteArray) : Prop where
  n : p ≠ wNm
  s : p ≠ wSp
  a : p ≠ wA
  b : p ≠ wB
set_option maxRecDepth 100000 in
theorem nof_wUp : NoF wUp := ⟨by decide +kernel, by decide +kernel, by decide +kernel, by decide +kernel⟩
set_option maxRecDepth 100000 in
theorem nof_wHist : NoF wHist := ⟨by decide +kernel, by decide +kernel, by decide +kernel, by decide +kernel⟩
set_option maxRecDepth 100000 in
theorem nof_wSpecs : NoF wSpecs := ⟨by decide +kernel, by decide +kernel, by decide +kernel, by decide +kernel⟩
set_option maxRecDepth 100000 in
theorem nof_wJobs : NoF wJobs := ⟨by decide +kernel, by decide +kernel, by decide +kernel, by decide +kernel⟩
set_option maxRecDepth 100000 in
theorem nof_wHead : NoF wHead := ⟨by decide +kernel, by decide +kernel, by decide +kernel, by decide +kernel⟩
set_option maxRecDepth 100000 in
theorem nof_wHeads : NoF wHeads := ⟨by decide +kernel, by decide +kernel, by decide +kernel, by decide +kernel⟩
set_option maxRecDepth 100000 in
theorem nof_wEnts : NoF wEnts := ⟨by decide +kernel, by decide +kernel, by decide +kernel, by decide +kernel⟩
set_option maxRecDepth 100000 in
theorem nof_wGrow : NoF wGrow := ⟨by decide +kernel, by decide +kernel, by decide +kernel, by decide +kernel⟩
set_option maxRecDepth 100000 in
theorem nof_wUsage : NoF wUsage := ⟨by decide +kernel, by decide +kernel, by decide +kernel, by decide +kernel⟩
set_option maxRecDepth 100000 in
theorem nof_nil : NoF ⟨#[]⟩ := ⟨by decide +kernel, by decide +kernel, by decide +kernel, by decide +kernel⟩
set_option maxRecDepth 100000 in
/-- the rows that a target may fit, by its number of pieces -/
theorem find_skip {r : Rt} {R : List Rt} {Q : List ByteArray} (h : rowRd r Q = none) : rtFind (r :: R) Q = rtFind R Q := by
  show (match rowRd r Q with | some a => some (r, a) | none => rtFind R Q) = _
  rw [h]
set_option maxRecDepth 100000 in
theorem find_here {r : Rt} {R : List Rt} {Q : List ByteArray} {a : As} (h : rowRd r Q = some a) : rtFind (r :: R) Q = some (r, a) := by
  show (match rowRd r Q with | some a => some (r, a) | none => rtFind R Q) = _
  rw [h]
set_option maxRecDepth 100000 in
theorem row_len {r : Rt} {Q P : List ByteArray} (h : ptsR r = P) (hl : Q.length ≠ P.length) : rowRd r Q = none := by unfold rowRd; rw [h, if_neg hl]
set_option maxRecDepth 100000 in
theorem row_eq {r : Rt} {Q P : List ByteArray} (h : ptsR r = P) (hl : Q.length = P.length) : rowRd r Q = rdAll ⟨r.k, ⟨#[]⟩, ⟨#[]⟩, [], 0, 0⟩ P Q := by unfold rowRd; rw [h, if_pos hl]
set_option maxRecDepth 100000 in
theorem all_word {a : As} {p q : ByteArray} {P Q : List ByteArray} (h : NoF p) : rdAll a (p :: P) (q :: Q) = if q = p then rdAll a P Q else none := by
  have e : rdPc a p q = (a, decide (q = p)) := by unfold rdPc; rw [if_neg h.n, if_neg h.s, if_neg h.a, if_neg h.b]
  show (if (rdPc a p q).2 = true then rdAll (rdPc a p q).1 P Q else none) = _
  rw [e]
  by_cases hq : q = p
  · rw [if_pos hq, if_pos (by simpa using hq)]
  · rw [if_neg hq, if_neg (by simpa using hq)]
set_option maxRecDepth 100000 in
theorem all_nm {a : As} {q : ByteArray} {P Q : List ByteArray} : rdAll a (wNm :: P) (q :: Q) = if nameB q = true then rdAll ⟨a.k, q, a.sp, a.b, a.A, a.B⟩ P Q else none := by
  show (if (rdPc a wNm q).2 = true then rdAll (rdPc a wNm q).1 P Q else none) = _
  have e : rdPc a wNm q = (⟨a.k, q, a.sp, a.b, a.A, a.B⟩, nameB q) := by unfold rdPc; rw [if_pos rfl]
  rw [e]
set_option maxRecDepth 100000 in
theorem all_sp {a : As} {q : ByteArray} {P Q : List ByteArray} : rdAll a (wSp :: P) (q :: Q) = if nameB q = true then rdAll ⟨a.k, a.nm, q, a.b, a.A, a.B⟩ P Q else none := by
  show (if (rdPc a wSp q).2 = true then rdAll (rdPc a wSp q).1 P Q else none) = _
  have e : rdPc a wSp q = (⟨a.k, a.nm, q, a.b, a.A, a.B⟩, nameB q) := by unfold rdPc; rw [if_neg (by decide +kernel), if_pos rfl]
  rw [e]
set_option maxRecDepth 100000 in
theorem all_A {a : As} {q : ByteArray} {P Q : List ByteArray} : rdAll a (wA :: P) (q :: Q) = if (rdB q).isSome = true then rdAll ⟨a.k, a.nm, a.sp, a.b, (rdB q).getD 0, a.B⟩ P Q else none := by
  show (if (rdPc a wA q).2 = true then rdAll (rdPc a wA q).1 P Q else none) = _
  have e : rdPc a wA q = (⟨a.k, a.nm, a.sp, a.b, (rdB q).getD 0, a.B⟩, (rdB q).isSome) := by unfold rdPc; rw [if_neg (by decide +kernel), if_neg (by decide +kernel), if_pos rfl]
  rw [e]
set_option maxRecDepth 100000 in
theorem all_B {a : As} {q : ByteArray} {P Q : List ByteArray} : rdAll a (wB :: P) (q :: Q) = if (rdB q).isSome = true then rdAll ⟨a.k, a.nm, a.sp, a.b, a.A, (rdB q).getD 0⟩ P Q else none := by
  show (if (rdPc a wB q).2 = true then rdAll (rdPc a wB q).1 P Q else none) = _
  have e : rdPc a wB q = (⟨a.k, a.nm, a.sp, a.b, a.A, (rdB q).getD 0⟩, (rdB q).isSome) := by unfold rdPc; rw [if_neg (by decide +kernel), if_neg (by decide +kernel), if_neg (by decide +kernel), if_pos rfl]
  rw [e]
set_option maxRecDepth 100000 in
theorem all_end {a : As} {Q : List ByteArray} : rdAll a [] Q = some a := by cases Q <;> rfl
set_option maxRecDepth 100000 in
/-- each row's answer, where the number of pieces is its own -/
theorem row2 {r : Rt} {w e x : ByteArray} (h : ptsR r = [⟨#[]⟩, w]) (hw : NoF w) : rowRd r [e, x] = if e = ⟨#[]⟩ then (if x = w then some ⟨r.k, ⟨#[]⟩, ⟨#[]⟩, [], 0, 0⟩ else none) else none := by
  rw [row_eq (Q := [e, x]) h rfl, all_word nof_nil, all_word hw, all_end]
set_option maxRecDepth 100000 in
theorem row3N {r : Rt} {w e x p : ByteArray} (h : ptsR r = [⟨#[]⟩, w, wNm]) (hw : NoF w) : rowRd r [e, x, p] = if e = ⟨#[]⟩ then (if x = w then (if nameB p = true then some ⟨r.k, p, ⟨#[]⟩, [], 0, 0⟩ else none) else none) else none := by
  rw [row_eq (Q := [e, x, p]) h rfl, all_word nof_nil, all_word hw, all_nm, all_end]
set_option maxRecDepth 100000 in
theorem row3A {r : Rt} {w e x p : ByteArray} (h : ptsR r = [⟨#[]⟩, w, wA]) (hw : NoF w) : rowRd r [e, x, p] = if e = ⟨#[]⟩ then (if x = w then (if (rdB p).isSome = true then some ⟨r.k, ⟨#[]⟩, ⟨#[]⟩, [], (rdB p).getD 0, 0⟩ else none) else none) else none := by
  rw [row_eq (Q := [e, x, p]) h rfl, all_word nof_nil, all_word hw, all_A, all_end]
set_option maxRecDepth 100000 in
theorem row4N {r : Rt} {w e x p q : ByteArray} (h : ptsR r = [⟨#[]⟩, w, wNm, wSp]) (hw : NoF w) : rowRd r [e, x, p, q] = if e = ⟨#[]⟩ then (if x = w then (if nameB p = true then (if nameB q = true then some ⟨r.k, p, q, [], 0, 0⟩ else none) else none) else none) else none := by
  rw [row_eq (Q := [e, x, p, q]) h rfl, all_word nof_nil, all_word hw, all_nm, all_sp, all_end]
set_option maxRecDepth 100000 in
theorem row4A {r : Rt} {w e x p q : ByteArray} (h : ptsR r = [⟨#[]⟩, w, wA, wB]) (hw : NoF w) : rowRd r [e, x, p, q] = if e = ⟨#[]⟩ then (if x = w then (if (rdB p).isSome = true then (if (rdB q).isSome = true then some ⟨r.k, ⟨#[]⟩, ⟨#[]⟩, [], (rdB p).getD 0, (rdB q).getD 0⟩ else none) else none) else none) else none := by
  rw [row_eq (Q := [e, x, p, q]) h rfl, all_word nof_nil, all_word hw, all_A, all_B, all_end]
/-- a row that is read has its own method and may have a body -/
def RtFit (o : Option (Rt × As)) : Prop := ∀ r a, o = some (r, a) → r.m = mthK a.k ∧ (r.h = true ↔ a.k = 1 ∨ a.k = 3) ∧ a.b = []
set_option maxRecDepth 100000 in
theorem fit_none : RtFit none := fun r a h => by cases h
set_option maxRecDepth 100000 in
theorem fit_some {r : Rt} {a : As} (h1 : r.m = mthK a.k) (h2 : r.h = true ↔ a.k = 1 ∨ a.k = 3) (h3 : a.b = []) : RtFit (some (r, a)) := fun r' a' h => by cases h; exact ⟨h1, h2, h3⟩
set_option maxRecDepth 100000 in
theorem fit1 {a : As} (h : a.k = rt1.k) (hb : a.b = []) : RtFit (some (rt1, a)) := fit_some (by rw [h]; decide +kernel) (by rw [h]; decide +kernel) hb
set_option maxRecDepth 100000 in
theorem fit2 {a : As} (h : a.k = rt2.k) (hb : a.b = []) : RtFit (some (rt2, a)) := fit_some (by rw [h]; decide +kernel) (by rw [h]; decide +kernel) hb
set_option maxRecDepth 100000 in
theorem fit3 {a : As} (h : a.k = rt3.k) (hb : a.b = []) : RtFit (some (rt3, a)) := fit_some (by rw [h]; decide +kernel) (by rw [h]; decide +kernel) hb
set_option maxRecDepth 100000 in
theorem fit4 {a : As} (h : a.k = rt4.k) (hb : a.b = []) : RtFit (some (rt4, a)) := fit_some (by rw [h]; decide +kernel) (by rw [h]; decide +kernel) hb
set_option maxRecDepth 100000 in
theorem fit5 {a : As} (h : a.k = rt5.k) (hb : a.b = []) : RtFit (some (rt5, a)) := fit_some (by rw [h]; decide +kernel) (by rw [h]; decide +kernel) hb
set_option maxRecDepth 100000 in
theorem fit6 {a : As} (h : a.k = rt6.k) (hb : a.b = []) : RtFit (some (rt6, a)) := fit_some (by rw [h]; decide +kernel) (by rw [h]; decide +kernel) hb
set_option maxRecDepth 100000 in
theorem fit7 {a : As} (h : a.k = rt7.k) (hb : a.b = []) : RtFit (some (rt7, a)) := fit_some (by rw [h]; decide +kernel) (by rw [h]; decide +kernel) hb
set_option maxRecDepth 100000 in
theorem fit8 {a : As} (h : a.k = rt8.k) (hb : a.b = []) : RtFit (some (rt8, a)) := fit_some (by rw [h]; decide +kernel) (by rw [h]; decide +kernel) hb
set_option maxRecDepth 100000 in
theorem fit9 {a : As} (h : a.k = rt9.k) (hb : a.b = []) : RtFit (some (rt9, a)) := fit_some (by rw [h]; decide +kernel) (by rw [h]; decide +kernel) hb
set_option maxRecDepth 100000 in
theorem fit10 {a : As} (h : a.k = rt10.k) (hb : a.b = []) : RtFit (some (rt10, a)) := fit_some (by rw [h]; decide +kernel) (by rw [h]; decide +kernel) hb
set_option maxRecDepth 100000 in
theorem find_nil (Q : List ByteArray) : rtFind [] Q = none := rfl
set_option maxRecDepth 100000 in
theorem rt_two (e x : ByteArray) : (rtTg [e, x]).map (·.2) = tgL [e, x] ∧ RtFit (rtTg [e, x]) := by
  unfold rtTg rtL
  rw [find_skip (row_len pts1 (by simp)), find_skip (row_len pts2 (by simp)), find_skip (row_len pts3 (by simp)), find_skip (row_len pts4 (by simp)), find_skip (row_len pts5 (by simp))]
  have q6 := row2 (e := e) (x := x) pts6 nof_wHead
  have q10 := row2 (e := e) (x := x) pts10 nof_wUsage
  by_cases he : e = ⟨#[]⟩
  · rw [if_pos he] at q6 q10
    by_cases h6 : x = wHead
    · rw [if_pos h6] at q6
      rw [find_here q6]
      exact ⟨by simp [tgL, tg0, he, h6, rt6], fit6 rfl rfl⟩
    · rw [if_neg h6] at q6
      rw [find_skip q6, find_skip (row_len pts7 (by simp)), find_skip (row_len pts8 (by simp)), find_skip (row_len pts9 (by simp))]
      by_cases h10 : x = wUsage
      · rw [if_pos h10] at q10
        rw [find_here q10]
        refine ⟨?_, fit10 rfl rfl⟩
        show some _ = if e = ⟨#[]⟩ then tg0 x else none
        unfold tg0
        rw [if_pos he, if_neg h6, if_pos h10]; rfl
      · rw [if_neg h10] at q10
        rw [find_skip q10, find_nil]
        refine ⟨?_, fit_none⟩
        show none = if e = ⟨#[]⟩ then tg0 x else none
        unfold tg0
        rw [if_pos he, if_neg h6, if_neg h10]
  · rw [if_neg he] at q6 q10
    rw [find_skip q6, find_skip (row_len pts7 (by simp)), find_skip (row_len pts8 (by simp)), find_skip (row_len pts9 (by simp)), find_skip q10, find_nil]
    refine ⟨?_, fit_none⟩
    show none = if e = ⟨#[]⟩ then tg0 x else none
    rw [if_neg he]
set_option maxRecDepth 100000 in
theorem rt_three (e x p : ByteArray) : (rtTg [e, x, p]).map (·.2) = tgL [e, x, p] ∧ RtFit (rtTg [e, x, p]) := by
  unfold rtTg rtL
  have hT : tgL [e, x, p] = if e = ⟨#[]⟩ then (if nameB p = true then tg1N x p else match rdB p with | some n => tg1D x n | none => none) else none := rfl
  rw [hT]
  have q1 := row3N (e := e) (x := x) (p := p) pts1 nof_wUp
  have q2 := row3N (e := e) (x := x) (p := p) pts2 nof_wHist
  have q3 := row3N (e := e) (x := x) (p := p) pts3 nof_wSpecs
  have q5 := row3A (e := e) (x := x) (p := p) pts5 nof_wJobs
  have q7 := row3A (e := e) (x := x) (p := p) pts7 nof_wHeads
  have q4 : rowRd rt4 [e, x, p] = none := row_len pts4 (by simp)
  have q6 : rowRd rt6 [e, x, p] = none := row_len pts6 (by simp)
  have q8 : rowRd rt8 [e, x, p] = none := row_len pts8 (by simp)
  have q9 : rowRd rt9 [e, x, p] = none := row_len pts9 (by simp)
  have q10 : rowRd rt10 [e, x, p] = none := row_len pts10 (by simp)
  by_cases he : e = ⟨#[]⟩
  · rw [if_pos he] at q1 q2 q3 q5 q7 ⊢
    by_cases hn : nameB p = true
    · have hr : rdB p = none := name_nonum hn
      rw [if_pos hn] at q1 q2 q3 ⊢
      rw [hr] at q5 q7
      have q5' : rowRd rt5 [e, x, p] = none := by rw [q5]; simp
      have q7' : rowRd rt7 [e, x, p] = none := by rw [q7]; simp
      unfold tg1N
      by_cases h1 : x = wUp
      · rw [if_pos h1] at q1 ⊢
        rw [find_here q1]
        exact ⟨rfl, fit1 rfl rfl⟩
      · rw [if_neg h1] at q1 ⊢
        rw [find_skip q1]
        by_cases h2 : x = wHist
        · rw [if_pos h2] at q2 ⊢
          rw [find_here q2]
          exact ⟨rfl, fit2 rfl rfl⟩
        · rw [if_neg h2] at q2 ⊢
          rw [find_skip q2]
          by_cases h3 : x = wSpecs
          · rw [if_pos h3] at q3 ⊢
            rw [find_here q3]
            exact ⟨rfl, fit3 rfl rfl⟩
          · rw [if_neg h3] at q3 ⊢
            rw [find_skip q3, find_skip q4, find_skip q5', find_skip q6, find_skip q7', find_skip q8, find_skip q9, find_skip q10, find_nil]
            exact ⟨rfl, fit_none⟩
    · rw [if_neg hn] at q1 q2 q3 ⊢
      have q1' : rowRd rt1 [e, x, p] = none := by rw [q1]; simp
      have q2' : rowRd rt2 [e, x, p] = none := by rw [q2]; simp
      have q3' : rowRd rt3 [e, x, p] = none := by rw [q3]; simp
      rw [find_skip q1', find_skip q2', find_skip q3', find_skip q4]
      cases hr : rdB p with
      | none =>
        rw [hr] at q5 q7
        have q5' : rowRd rt5 [e, x, p] = none := by rw [q5]; simp
        have q7' : rowRd rt7 [e, x, p] = none := by rw [q7]; simp
        rw [find_skip q5', find_skip q6, find_skip q7', find_skip q8, find_skip q9, find_skip q10, find_nil]
        exact ⟨rfl, fit_none⟩
      | some n =>
        rw [hr, if_pos (show (some n).isSome = true from rfl)] at q5 q7
        simp only []
        unfold tg1D
        by_cases h5 : x = wJobs
        · rw [if_pos h5] at q5 ⊢
          rw [find_here q5]
          exact ⟨rfl, fit5 rfl rfl⟩
        · rw [if_neg h5] at q5 ⊢
          rw [find_skip q5, find_skip q6]
          by_cases h7 : x = wHeads
          · rw [if_pos h7] at q7 ⊢
            rw [find_here q7]
            exact ⟨rfl, fit7 rfl rfl⟩
          · rw [if_neg h7] at q7 ⊢
            rw [find_skip q7, find_skip q8, find_skip q9, find_skip q10, find_nil]
            exact ⟨rfl, fit_none⟩
  · rw [if_neg he] at q1 q2 q3 q5 q7 ⊢
    rw [find_skip q1, find_skip q2, find_skip q3, find_skip q4, find_skip q5, find_skip q6, find_skip q7, find_skip q8, find_skip q9, find_skip q10, find_nil]
    exact ⟨rfl, fit_none⟩
set_option maxRecDepth 100000 in
theorem rt_four (e x p q : ByteArray) : (rtTg [e, x, p, q]).map (·.2) = tgL [e, x, p, q] ∧ RtFit (rtTg [e, x, p, q]) := by
  unfold rtTg rtL
  have hT : tgL [e, x, p, q] = if e = ⟨#[]⟩ then (if nameB p = true ∧ nameB q = true ∧ x = wJobs then some ⟨4, p, q, [], 0, 0⟩ else match rdB p, rdB q with | some n, some m => tg2D x n m | _, _ => none) else none := rfl
  rw [hT]
  have q1 : rowRd rt1 [e, x, p, q] = none := row_len pts1 (by simp)
  have q2 : rowRd rt2 [e, x, p, q] = none := row_len pts2 (by simp)
  have q3 : rowRd rt3 [e, x, p, q] = none := row_len pts3 (by simp)
  have q4 := row4N (e := e) (x := x) (p := p) (q := q) pts4 nof_wJobs
  have q5 : rowRd rt5 [e, x, p, q] = none := row_len pts5 (by simp)
  have q6 : rowRd rt6 [e, x, p, q] = none := row_len pts6 (by simp)
  have q7 : rowRd rt7 [e, x, p, q] = none := row_len pts7 (by simp)
  have q8 := row4A (e := e) (x := x) (p := p) (q := q) pts8 nof_wEnts
  have q9 := row4A (e := e) (x := x) (p := p) (q := q) pts9 nof_wGrow
  have q10 : rowRd rt10 [e, x, p, q] = none := row_len pts10 (by simp)
  rw [find_skip q1, find_skip q2, find_skip q3]
  by_cases he : e = ⟨#[]⟩
  · rw [if_pos he] at q4 q8 q9 ⊢
    by_cases h4 : nameB p = true ∧ nameB q = true ∧ x = wJobs
    · rw [if_pos h4.2.2, if_pos h4.1, if_pos h4.2.1] at q4
      rw [if_pos h4, find_here q4]
      exact ⟨rfl, fit4 rfl rfl⟩
    · have q4' : rowRd rt4 [e, x, p, q] = none := by
        rw [q4]
        by_cases a1 : x = wJobs
        · by_cases a2 : nameB p = true
          · by_cases a3 : nameB q = true
            · exact absurd ⟨a2, a3, a1⟩ h4
            · rw [if_neg a3]; simp
          · rw [if_neg a2]; simp
        · rw [if_neg a1]
      rw [if_neg h4, find_skip q4', find_skip q5, find_skip q6, find_skip q7]
      have no : rowRd rt8 [e, x, p, q] = none → rowRd rt9 [e, x, p, q] = none → (rtFind [rt8, rt9, rt10] [e, x, p, q]).map (·.2) = none ∧ RtFit (rtFind [rt8, rt9, rt10] [e, x, p, q]) := fun h8 h9 => by
        rw [find_skip h8, find_skip h9, find_skip q10, find_nil]; exact ⟨rfl, fit_none⟩
      cases hp : rdB p with
      | none =>
        rw [hp] at q8 q9
        exact no (by rw [q8]; simp) (by rw [q9]; simp)
      | some n =>
        cases hq : rdB q with
        | none =>
          rw [hq] at q8 q9
          exact no (by rw [q8]; simp) (by rw [q9]; simp)
        | some m =>
          rw [hp, hq, if_pos (show (some n).isSome = true from rfl), if_pos (show (some m).isSome = true from rfl)] at q8 q9
          simp only []
          unfold tg2D
          by_cases h8 : x = wEnts
          · rw [if_pos h8] at q8 ⊢
            rw [find_here q8]
            exact ⟨rfl, fit8 rfl rfl⟩
          · rw [if_neg h8] at q8 ⊢
            rw [find_skip q8]
            by_cases h9 : x = wGrow
            · rw [if_pos h9] at q9 ⊢
              rw [find_here q9]
              exact ⟨rfl, fit9 rfl rfl⟩
            · rw [if_neg h9] at q9 ⊢
              rw [find_skip q9, find_skip q10, find_nil]
              exact ⟨rfl, fit_none⟩
  · rw [if_neg he] at q4 q8 q9 ⊢
    rw [find_skip q4, find_skip q5, find_skip q6, find_skip q7, find_skip q8, find_skip q9, find_skip q10, find_nil]
    exact ⟨rfl, fit_none⟩
set_option maxRecDepth 100000 in
/-- no row has so few or so many pieces -/
theorem rt_none {Q : List ByteArray} (h : Q.length < 2 ∨ 4 < Q.length) : rtTg Q = none := by
  unfold rtTg rtL
  have k : ∀ (r : Rt) (P : List ByteArray), ptsR r = P → 2 ≤ P.length → P.length ≤ 4 → rowRd r Q = none := fun r P hP h1 h2 => row_len hP (by omega)
  rw [find_skip (k _ _ pts1 (by decide) (by decide)), find_skip (k _ _ pts2 (by decide) (by decide)), find_skip (k _ _ pts3 (by decide) (by decide)), find_skip (k _ _ pts4 (by decide) (by decide)), find_skip (k _ _ pts5 (by decide) (by decide)), find_skip (k _ _ pts6 (by decide) (by decide)), find_skip (k _ _ pts7 (by decide) (by decide)), find_skip (k _ _ pts8 (by decide) (by decide)), find_skip (k _ _ pts9 (by decide) (by decide)), find_skip (k _ _ pts10 (by decide) (by decide)), find_nil]
set_option maxRecDepth 100000 in
theorem rt_tg (Q : List ByteArray) : (rtTg Q).map (·.2) = tgL Q ∧ RtFit (rtTg Q) := by
  match Q with
  | [] => rw [rt_none (.inl (by decide))]; exact ⟨rfl, fit_none⟩
  | [_] => rw [rt_none (.inl (by simp))]; exact ⟨rfl, fit_none⟩
  | [e, x] => exact rt_two e x
  | [e, x, p] => exact rt_three e x p
  | [e, x, p, q] => exact rt_four e x p q
  | _ :: _ :: _ :: _ :: _ :: _ => rw [rt_none (.inr (by simp))]; exact ⟨rfl, fit_none⟩
set_option maxRecDepth 100000 in
theorem rt_fields (t : ByteArray) : (rtTg (fL 47 t 4)).map (·.2) = tgV t ∧ RtFit (rtTg (fL 47 t 4)) := by
  unfold tgV fL
  by_cases h : ((pcs 47 t).length : Int) ≤ 4
  · rw [if_pos h]; exact rt_tg _
  · rw [if_neg h, rt_none (.inl (by decide))]
    refine ⟨?_, fit_none⟩
    have h1 := (rt_tg (pcs 47 t)).1
    rw [rt_none (.inr (by omega))] at h1
    exact h1
set_option maxRecDepth 100000 in
/-- what the table says is what the request asks -/
theorem rt_par (x : WX) : rtPar x = parV x := by
  obtain ⟨h1, h2⟩ := rt_fields x.t
  unfold rtTg at h1 h2
  unfold rtPar parV
  rw [← h1]
  cases hf : rtFind rtL (fL 47 x.t 4) with
  | none => rfl
  | some y =>
    obtain ⟨r, a⟩ := y
    obtain ⟨k1, k2, k3⟩ := h2 r a hf
    simp only [Option.map_some]
    rw [k1]
    by_cases hm : x.m = mthK a.k
    · rw [if_pos hm, if_pos hm]
      by_cases hk : a.k = 1 ∨ a.k = 3
      · rw [if_pos (k2.2 hk), if_pos hk]
      · rw [if_neg (fun h => hk (k2.1 h)), if_neg hk]
    · rw [if_neg hm, if_neg hm]
end Go.Proofs.YtpfijaojgeceeaaGreatDoor
