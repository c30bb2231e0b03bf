/- The request that the table writes is the one that asks. No walk. -/
import Derived.Test.YtpfijaojgeceeaaGreatDoorAuae
import Derived.Lib.Join
namespace Go.Proofs.YtpfijaojgeceeaaGreatDoor
open Go.RowKit
set_option linter.unusedVariables false

/-- what the table writes -/
def wrtV (a : As) : WX := match rtL.find? (fun r => decide (r.k = a.k)) with
  | some r => ⟨r.m, tgtR r a, ⟨#[]⟩, if r.h = true then a.b else []⟩
  | none => wx0
set_option maxRecDepth 100000 in
theorem join_data (P : List ByteArray) : (joinS P).data.toList = Lib.join (P.map (·.data.toList)) [47] := rfl
set_option maxRecDepth 100000 in
theorem join_two (a b : ByteArray) : (joinS [a, b]).data.toList = a.data.toList ++ (47 :: b.data.toList) := by
  rw [join_data]; simp [Lib.join_cons, Lib.joinTail]
set_option maxRecDepth 100000 in
theorem join_three (a b c : ByteArray) : (joinS [a, b, c]).data.toList = a.data.toList ++ (47 :: (b.data.toList ++ (47 :: c.data.toList))) := by
  rw [join_data]; simp [Lib.join_cons, Lib.joinTail]
set_option maxRecDepth 100000 in
theorem join_four (a b c d : ByteArray) : (joinS [a, b, c, d]).data.toList = a.data.toList ++ (47 :: (b.data.toList ++ (47 :: (c.data.toList ++ (47 :: d.data.toList))))) := by
  rw [join_data]; simp [Lib.join_cons, Lib.joinTail]
set_option maxRecDepth 100000 in
theorem wr_word {a : As} {p : ByteArray} (h : NoF p) : wrPc a p = p := by unfold wrPc; rw [if_neg h.n, if_neg h.s, if_neg h.a, if_neg h.b]
set_option maxRecDepth 100000 in
theorem wr_nm (a : As) : wrPc a wNm = a.nm := by unfold wrPc; rw [if_pos rfl]
set_option maxRecDepth 100000 in
theorem wr_sp (a : As) : wrPc a wSp = a.sp := by unfold wrPc; rw [if_neg (by decide +kernel), if_pos rfl]
set_option maxRecDepth 100000 in
theorem wr_A (a : As) : wrPc a wA = decS a.A := by unfold wrPc; rw [if_neg (by decide +kernel), if_neg (by decide +kernel), if_pos rfl]
set_option maxRecDepth 100000 in
theorem wr_B (a : As) : wrPc a wB = decS a.B := by unfold wrPc; rw [if_neg (by decide +kernel), if_neg (by decide +kernel), if_neg (by decide +kernel), if_pos rfl]
set_option maxRecDepth 100000 in
theorem app_data (a b : ByteArray) : (a ++ b).data.toList = a.data.toList ++ b.data.toList := by simp
set_option maxRecDepth 100000 in
theorem tg2 {r : Rt} {w : ByteArray} {a : As} (h : ptsR r = [⟨#[]⟩, w]) (hw : NoF w) : (tgtR r a).data.toList = 47 :: w.data.toList := by
  unfold tgtR; rw [h]; simp only [List.map_cons, List.map_nil]; rw [join_two, wr_word nof_nil, wr_word hw]; rfl
set_option maxRecDepth 100000 in
theorem tg3 {r : Rt} {w p : ByteArray} {a : As} (h : ptsR r = [⟨#[]⟩, w, p]) (hw : NoF w) : (tgtR r a).data.toList = 47 :: (w.data.toList ++ (47 :: (wrPc a p).data.toList)) := by
  unfold tgtR; rw [h]; simp only [List.map_cons, List.map_nil]; rw [join_three, wr_word nof_nil, wr_word hw]; rfl
set_option maxRecDepth 100000 in
theorem tg4 {r : Rt} {w p q : ByteArray} {a : As} (h : ptsR r = [⟨#[]⟩, w, p, q]) (hw : NoF w) : (tgtR r a).data.toList = 47 :: (w.data.toList ++ (47 :: ((wrPc a p).data.toList ++ (47 :: (wrPc a q).data.toList)))) := by
  unfold tgtR; rw [h]; simp only [List.map_cons, List.map_nil]; rw [join_four, wr_word nof_nil, wr_word hw]; rfl
set_option maxRecDepth 100000 in
theorem wrt_find {a : As} {r : Rt} (h : rtL.find? (fun r => decide (r.k = a.k)) = some r) : wrtV a = ⟨r.m, tgtR r a, ⟨#[]⟩, if r.h = true then a.b else []⟩ := by unfold wrtV; rw [h]
set_option maxRecDepth 100000 in
theorem find_k (k : Int) : rtL.find? (fun r => decide (r.k = k)) = if k = 1 then some rt1 else if k = 2 then some rt2 else if k = 3 then some rt3 else if k = 4 then some rt4 else if k = 5 then some rt5 else if k = 10 then some rt6 else if k = 6 then some rt7 else if k = 7 then some rt8 else if k = 8 then some rt9 else if k = 9 then some rt10 else none := by
  unfold rtL
  simp only [List.find?_cons, List.find?_nil]
  have e1 : rt1.k = 1 := rfl
  have e2 : rt2.k = 2 := rfl
  have e3 : rt3.k = 3 := rfl
  have e4 : rt4.k = 4 := rfl
  have e5 : rt5.k = 5 := rfl
  have e6 : rt6.k = 10 := rfl
  have e7 : rt7.k = 6 := rfl
  have e8 : rt8.k = 7 := rfl
  have e9 : rt9.k = 8 := rfl
  have e10 : rt10.k = 9 := rfl
  rw [e1, e2, e3, e4, e5, e6, e7, e8, e9, e10]
  by_cases h1 : k = 1
  · subst h1; rfl
  · by_cases h2 : k = 2
    · subst h2; rfl
    · by_cases h3 : k = 3
      · subst h3; rfl
      · by_cases h4 : k = 4
        · subst h4; rfl
        · by_cases h5 : k = 5
          · subst h5; rfl
          · by_cases h10 : k = 10
            · subst h10; rfl
            · by_cases h6 : k = 6
              · subst h6; rfl
              · by_cases h7 : k = 7
                · subst h7; rfl
                · by_cases h8 : k = 8
                  · subst h8; rfl
                  · by_cases h9 : k = 9
                    · subst h9; rfl
                    · rw [if_neg h1, if_neg h2, if_neg h3, if_neg h4, if_neg h5, if_neg h10, if_neg h6, if_neg h7, if_neg h8, if_neg h9]
                      simp [Ne.symm h1, Ne.symm h2, Ne.symm h3, Ne.symm h4, Ne.symm h5, Ne.symm h6, Ne.symm h7, Ne.symm h8, Ne.symm h9, Ne.symm h10]
set_option maxRecDepth 100000 in
theorem wrt_other {a : As} (h : a.k < 1 ∨ 10 < a.k) : wrtV a = wx0 ∧ (prtX a).t = ⟨#[]⟩ := by
  constructor
  · unfold wrtV
    rw [find_k, if_neg (by omega), if_neg (by omega), if_neg (by omega), if_neg (by omega), if_neg (by omega), if_neg (by omega), if_neg (by omega), if_neg (by omega), if_neg (by omega), if_neg (by omega)]
  · show tgtP a = _
    unfold tgtP
    rw [if_neg (by omega), if_neg (by omega), if_neg (by omega), if_neg (by omega), if_neg (by omega), if_neg (by omega), if_neg (by omega), if_neg (by omega), if_neg (by omega), if_neg (by omega)]
set_option maxRecDepth 100000 in
theorem wrt_same {a : As} (h : 1 ≤ a.k ∧ a.k ≤ 10) : wrtV a = prtX a := by
  have hf := find_k a.k
  obtain h1 | h2 | h3 | h4 | h5 | h6 | h7 | h8 | h9 | h10 : a.k = 1 ∨ a.k = 2 ∨ a.k = 3 ∨ a.k = 4 ∨ a.k = 5 ∨ a.k = 6 ∨ a.k = 7 ∨ a.k = 8 ∨ a.k = 9 ∨ a.k = 10 := by omega
  · have hk := h1; rw [h1] at hf; rw [wrt_find (r := rt1) (by rw [h1]; exact hf)]; unfold prtX tgtP mthK; rw [h1]
    have e : tgtR rt1 a = ⟨#[47, 117, 112, 108, 111, 97, 100, 115, 47]⟩ ++ a.nm := ba_ext (by rw [tg3 pts1 nof_wUp, wr_nm, app_data]; rfl)
    rw [e]; rfl
  · rw [h2] at hf; rw [wrt_find (r := rt2) (by rw [h2]; exact hf)]; unfold prtX tgtP mthK; rw [h2]
    have e : tgtR rt2 a = ⟨#[47, 104, 105, 115, 116, 111, 114, 105, 101, 115, 47]⟩ ++ a.nm := ba_ext (by rw [tg3 pts2 nof_wHist, wr_nm, app_data]; rfl)
    rw [e]; rfl
  · rw [h3] at hf; rw [wrt_find (r := rt3) (by rw [h3]; exact hf)]; unfold prtX tgtP mthK; rw [h3]
    have e : tgtR rt3 a = ⟨#[47, 115, 112, 101, 99, 115, 47]⟩ ++ a.nm := ba_ext (by rw [tg3 pts3 nof_wSpecs, wr_nm, app_data]; rfl)
    rw [e]; rfl
  · rw [h4] at hf; rw [wrt_find (r := rt4) (by rw [h4]; exact hf)]; unfold prtX tgtP mthK; rw [h4]
    have e : tgtR rt4 a = ⟨#[47, 106, 111, 98, 115, 47]⟩ ++ a.nm ++ ⟨#[47]⟩ ++ a.sp := ba_ext (by rw [tg4 pts4 nof_wJobs, wr_nm, wr_sp, app_data, app_data, app_data, List.append_assoc, List.append_assoc]; rfl)
    rw [e]; rfl
  · rw [h5] at hf; rw [wrt_find (r := rt5) (by rw [h5]; exact hf)]; unfold prtX tgtP mthK; rw [h5]
    have e : tgtR rt5 a = ⟨#[47, 106, 111, 98, 115, 47]⟩ ++ decS a.A := ba_ext (by rw [tg3 pts5 nof_wJobs, wr_A, app_data]; rfl)
    rw [e]; rfl
  · rw [h6] at hf; rw [wrt_find (r := rt7) (by rw [h6]; exact hf)]; unfold prtX tgtP mthK; rw [h6]
    have e : tgtR rt7 a = ⟨#[47, 104, 101, 97, 100, 115, 47]⟩ ++ decS a.A := ba_ext (by rw [tg3 pts7 nof_wHeads, wr_A, app_data]; rfl)
    rw [e]; rfl
  · rw [h7] at hf; rw [wrt_find (r := rt8) (by rw [h7]; exact hf)]; unfold prtX tgtP mthK; rw [h7]
    have e : tgtR rt8 a = ⟨#[47, 101, 110, 116, 114, 105, 101, 115, 47]⟩ ++ decS a.A ++ ⟨#[47]⟩ ++ decS a.B := ba_ext (by rw [tg4 pts8 nof_wEnts, wr_A, wr_B, app_data, app_data, app_data, List.append_assoc, List.append_assoc]; rfl)
    rw [e]; rfl
  · rw [h8] at hf; rw [wrt_find (r := rt9) (by rw [h8]; exact hf)]; unfold prtX tgtP mthK; rw [h8]
    have e : tgtR rt9 a = ⟨#[47, 103, 114, 111, 119, 116, 104, 47]⟩ ++ decS a.A ++ ⟨#[47]⟩ ++ decS a.B := ba_ext (by rw [tg4 pts9 nof_wGrow, wr_A, wr_B, app_data, app_data, app_data, List.append_assoc, List.append_assoc]; rfl)
    rw [e]; rfl
  · rw [h9] at hf; rw [wrt_find (r := rt10) (by rw [h9]; exact hf)]; unfold prtX tgtP mthK; rw [h9]
    have e : tgtR rt10 a = ⟨#[47, 117, 115, 97, 103, 101]⟩ := ba_ext (by rw [tg2 pts10 nof_wUsage]; rfl)
    rw [e]; rfl
  · rw [h10] at hf; rw [wrt_find (r := rt6) (by rw [h10]; exact hf)]; unfold prtX tgtP mthK; rw [h10]
    have e : tgtR rt6 a = ⟨#[47, 104, 101, 97, 100]⟩ := ba_ext (by rw [tg2 pts6 nof_wHead]; rfl)
    rw [e]; rfl
set_option maxRecDepth 100000 in
/-- a target of no bytes is none -/
theorem par_empty {x : WX} (h : x.t = ⟨#[]⟩) : parV x = (as0, 404) := by
  unfold parV tgV
  rw [h, show pcs 47 ⟨#[]⟩ = [⟨#[]⟩] from by decide +kernel]
  rfl
/-- is what the table writes read so -/
def wrtOk (a : As) : Bool := decide ((parV (wrtV a)).2 = 200) && asE a (parV (wrtV a)).1
set_option maxRecDepth 100000 in
/-- what is written and read again: the same as what asks -/
theorem prt_wrt (a : As) : prtV a = if wrtOk a = true then (wrtV a, 0) else (wx0, 2) := by
  unfold prtV
  by_cases h : 1 ≤ a.k ∧ a.k ≤ 10
  · have e : wrtOk a = prtOk a := by unfold wrtOk prtOk; rw [wrt_same h]
    rw [e, wrt_same h]
  · obtain ⟨h1, h2⟩ := wrt_other (a := a) (by omega)
    have e1 : prtOk a = false := by unfold prtOk; rw [par_empty h2]; rfl
    have e2 : wrtOk a = false := by unfold wrtOk; rw [h1, par_empty rfl]; rfl
    rw [e1, e2]; rfl
end Go.Proofs.YtpfijaojgeceeaaGreatDoor
