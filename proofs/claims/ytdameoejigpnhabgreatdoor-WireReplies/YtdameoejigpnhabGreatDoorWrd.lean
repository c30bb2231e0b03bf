/- Pieces and numbers of texts, as lists of bytes have them. No walk. What the library answers of lines, as lists of bytes have it. No walk. Answers, read as the program reads them: the first status that fits. No walk. -/
import Derived.Test.YtdameoejigpnhabGreatDoorWireMath5
import Derived.Test.YtdameoejigpnhabGreatDoorFieldMath
import Derived.Test.YtdameoejigpnhabGreatDoorWro
import Derived.Lib.IndexMore
import Derived.Lib.Case
import Derived.Lib.SlTrimSet
namespace Go.Proofs.YtdameoejigpnhabGreatDoor
open Go.RowKit
set_option linter.unusedVariables false
open Go.Lib (decDigits)

/-- a byte as it stands in a text -/
def u8I (c : Int) : UInt8 := UInt8.ofNat c.toNat
set_option maxRecDepth 100000 in
theorem u8I_inj {a b : Int} (ha : 0 ≤ a ∧ a ≤ 255) (hb : 0 ≤ b ∧ b ≤ 255) (h : u8I a = u8I b) : a = b := by
  have e := congrArg UInt8.toNat h
  simp only [u8I, UInt8.toNat_ofNat'] at e
  omega
set_option maxRecDepth 100000 in
theorem strOf_data (l : List Int) : (strOf l).data.toList = l.map u8I := rfl
set_option maxRecDepth 100000 in
theorem split_link (c : Int) (hc : 0 ≤ c ∧ c ≤ 255) : ∀ l : List Int, Byt l → splitL (u8I c) (l.map u8I) = (pcsI c l).map (List.map u8I)
  | [], _ => rfl
  | b :: r, h => by
    have hb : 0 ≤ b ∧ b ≤ 255 := h b (by simp)
    have ih := split_link c hc r (fun d hd => h d (by simp [hd]))
    show (if u8I b = u8I c then _ else _) = List.map _ (if b = c then _ else _)
    by_cases e : b = c
    · rw [if_pos (by rw [e]), if_pos e, ih]; rfl
    · rw [if_neg (fun h => e (u8I_inj hb hc h)), if_neg e, ih]
      cases pcsI c r with
      | nil => rfl
      | cons p ps => rfl
set_option maxRecDepth 100000 in
theorem pcs_link (c : Int) (hc : 0 ≤ c ∧ c ≤ 255) (l : List Int) (h : Byt l) : pcs (cb c) (strOf l) = (pcsI c l).map strOf := by
  unfold pcs
  rw [strOf_data, show cb c = u8I c from rfl, split_link c hc l h, List.map_map]
  rfl
set_option maxRecDepth 100000 in
theorem dec_link (n : Nat) : decDigits n = (decN n).map u8I := by
  induction n using Nat.strongRecOn with
  | _ n ih =>
    by_cases h : n < 10
    · rw [Lib.decDigits_one h, decN_lt h, List.map_cons, List.map_nil]
      congr 1
    · rw [decDigits_big h, decN_ge h, List.map_append, ih (n / 10) (by omega), List.map_cons, List.map_nil]
      congr 2
set_option maxRecDepth 100000 in
theorem decS_link (n : Nat) : decS (n : Int) = strOf (decN n) := by
  unfold decS
  rw [itoa_nat, dec_link]; rfl
set_option maxRecDepth 100000 in
theorem rd_link (l : List Int) (h : Byt l) : rdv (strOf l).data.toList = match rdD l with | none => none | some n => if n ≤ 9223372036854775807 then some (n : Int) else none := by
  cases hr : rdD l with
  | some n =>
    have e := rdD_some hr
    simp only []
    by_cases hn : n ≤ 9223372036854775807
    · rw [if_pos hn, strOf_data, e, ← dec_link]; exact rdv_dec n hn
    · rw [if_neg hn]
      refine rdv_not fun m hm em => ?_
      rw [strOf_data, dec_link] at em
      have : strOf l = strOf (decN m) := by
        show (⟨(l.map u8I).toArray⟩ : ByteArray) = ⟨((decN m).map u8I).toArray⟩
        rw [em]
      have h2 := strOf_inj h (decN_byt m) this
      rw [h2, rdD_decN] at hr
      cases hr
      omega
  | none =>
    simp only []
    refine rdv_not fun m hm em => ?_
    rw [strOf_data, dec_link] at em
    have : strOf l = strOf (decN m) := by
      show (⟨(l.map u8I).toArray⟩ : ByteArray) = ⟨((decN m).map u8I).toArray⟩
      rw [em]
    have h2 := strOf_inj h (decN_byt m) this
    rw [h2, rdD_decN] at hr
    cases hr
end Go.Proofs.YtdameoejigpnhabGreatDoor
namespace Go.Proofs.YtdameoejigpnhabGreatDoor
open Go.RowKit
set_option linter.unusedVariables false

set_option maxRecDepth 100000 in
theorem u8_getD (l : List Int) (i : Nat) (h : i < l.length) : (l.map u8I)[i]? = some (u8I (l.getD i 0)) := by
  rw [List.getElem?_map, List.getElem?_eq_getElem h, List.getD_eq_getElem?_getD, List.getElem?_eq_getElem h]; rfl
set_option maxRecDepth 100000 in
theorem occ_two (l : List Int) (hl : Byt l) (i : Nat) : Lib.occAt (l.map u8I) [58, 32] i = true ↔ (i + 1 < l.length ∧ l.getD i 0 = 58 ∧ l.getD (i + 1) 0 = 32) := by
  have e58 : (58 : UInt8) = u8I 58 := rfl
  have e32 : (32 : UInt8) = u8I 32 := rfl
  unfold Lib.occAt
  by_cases h1 : i + 1 < l.length
  · have d : (l.map u8I).drop i = u8I (l.getD i 0) :: u8I (l.getD (i + 1) 0) :: (l.map u8I).drop (i + 2) := by
      rw [← List.map_drop, ← List.map_drop, drop_head l i (by omega), drop_head l (i + 1) h1]; rfl
    rw [d]
    simp only [List.isPrefixOf, Bool.and_true, Bool.and_eq_true, beq_iff_eq]
    constructor
    · rintro ⟨a, b⟩
      exact ⟨h1, (u8I_inj ⟨by decide, by decide⟩ (hl.getD i) (e58 ▸ a)).symm, (u8I_inj ⟨by decide, by decide⟩ (hl.getD (i + 1)) (e32 ▸ b)).symm⟩
    · rintro ⟨_, a, b⟩
      rw [a, b]; exact ⟨rfl, rfl⟩
  · constructor
    · intro h
      exfalso
      have hlen := (List.isPrefixOf_iff_prefix.1 h).length_le
      simp at hlen
      omega
    · rintro ⟨a, _⟩; omega
set_option maxRecDepth 100000 in
theorem colI_le : ∀ l : List Int, colI l ≤ l.length
  | [] => Nat.le_refl _
  | c :: r => by unfold colI; split; · simp
                 · have := colI_le r; simp; omega
set_option maxRecDepth 100000 in
theorem colI_at : ∀ l : List Int, colI l < l.length → l.getD (colI l) 0 = 58
  | [], h => by simp [colI] at h
  | c :: r, h => by
    unfold colI at h ⊢
    split
    · rename_i e; simpa using e
    · rename_i e; rw [if_neg e] at h; simpa using colI_at r (by simpa using h)
set_option maxRecDepth 100000 in
theorem colI_first : ∀ (l : List Int) (j : Nat), j < colI l → l.getD j 0 ≠ 58
  | [], j, h => by simp [colI] at h
  | c :: r, j, h => by
    unfold colI at h
    split at h
    · omega
    · rename_i e
      cases j with
      | zero => simpa using e
      | succ j => simpa using colI_first r j (by omega)
/-- what a name may be -/
def nmB (m : List Int) : Bool := decide (1 ≤ m.length) && (decide (m.length ≤ 32) && m.all letB)
set_option maxRecDepth 100000 in
theorem nmB_colon {m : List Int} {j : Nat} (hj : j < m.length) (h : m.getD j 0 = 58) : nmB m = false := by
  unfold nmB
  have : m.all letB = false := by
    rw [List.all_eq_false]
    refine ⟨m.getD j 0, ?_, ?_⟩
    · rw [List.getD_eq_getElem?_getD, List.getElem?_eq_getElem hj]; exact List.getElem_mem _
    · rw [h]; decide
  rw [this]; simp
set_option maxRecDepth 100000 in
/-- a line, cut at the first colon with a blank behind it -/
theorem cut_nam (l : List Int) (hl : Byt l) : (∃ i, namI l = some i ∧ i + 2 ≤ l.length ∧ nmB (l.take i) = true ∧ Lib.cut (l.map u8I) [58, 32] = ((l.take i).map u8I, (l.drop (i + 2)).map u8I, true)) ∨
    (namI l = none ∧ ((Lib.cut (l.map u8I) [58, 32] = (l.map u8I, [], false)) ∨ ∃ i, i + 2 ≤ l.length ∧ nmB (l.take i) = false ∧ Lib.cut (l.map u8I) [58, 32] = ((l.take i).map u8I, (l.drop (i + 2)).map u8I, true))) := by
  have hcl := colI_le l
  rcases Lib.index_spec (l.map u8I) [58, 32] with ⟨h1, h2⟩ | ⟨i, h1, h2, h3, h4⟩
  · right
    constructor
    · unfold namI
      rw [if_neg]
      rintro ⟨_, _, _, a, b⟩
      have := h2 (colI l) (by simpa using hcl)
      rw [(occ_two l hl (colI l)).2 ⟨a, colI_at l (by omega), b⟩] at this
      cases this
    · left
      unfold Lib.cut
      rw [if_neg (by rw [h1]; decide)]
  · have ho := (occ_two l hl i).1 h3
    have hcut : Lib.cut (l.map u8I) [58, 32] = ((l.take i).map u8I, (l.drop (i + 2)).map u8I, true) := by
      unfold Lib.cut
      rw [if_pos (by rw [h1]; exact Int.natCast_nonneg _), h1]
      simp [List.map_take, List.map_drop]
    have hci : colI l ≤ i := by
      by_cases h : colI l ≤ i
      · exact h
      · exact absurd ho.2.1 (colI_first l i (by omega))
    have htl : (l.take i).length = i := by rw [List.length_take]; omega
    by_cases he : colI l = i
    · cases hb : nmB (l.take i) with
      | true =>
        left
        refine ⟨i, ?_, by omega, hb, hcut⟩
        unfold nmB at hb
        simp only [Bool.and_eq_true, decide_eq_true_eq, htl] at hb
        unfold namI
        rw [he, if_pos ⟨hb.2.2, hb.1, hb.2.1, ho.1, ho.2.2⟩]
      | false =>
        right
        refine ⟨?_, .inr ⟨i, by omega, hb, hcut⟩⟩
        unfold namI
        rw [he, if_neg]
        rintro ⟨a, b, c, _⟩
        have : nmB (l.take i) = true := by unfold nmB; simp only [Bool.and_eq_true, decide_eq_true_eq, htl]; exact ⟨b, c, a⟩
        rw [hb] at this; cases this
    · right
      refine ⟨?_, .inr ⟨i, by omega, ?_, hcut⟩⟩
      · unfold namI
        rw [if_neg]
        rintro ⟨_, _, _, a, b⟩
        have := h4 (colI l) (by omega)
        rw [(occ_two l hl (colI l)).2 ⟨a, colI_at l (by omega), b⟩] at this
        cases this
      · refine nmB_colon (j := colI l) (by omega) ?_
        rw [List.getD_eq_getElem?_getD, List.getElem?_take, if_pos (by omega), ← List.getD_eq_getElem?_getD]
        exact colI_at l (by omega)
set_option maxRecDepth 100000 in
theorem lower_u8 (c : Int) (hc : 0 ≤ c ∧ c ≤ 255) : Lib.lowerB (u8I c) = u8I (lowB c) := by
  obtain ⟨n, rfl⟩ : ∃ n : Nat, c = (n : Int) := ⟨c.toNat, by omega⟩
  have hn : n < 256 := by omega
  clear hc
  revert n
  decide +kernel
set_option maxRecDepth 100000 in
theorem lower_map (l : List Int) (hl : Byt l) : Lib.toLowerA (l.map u8I) = (l.map lowB).map u8I := by
  unfold Lib.toLowerA
  rw [List.map_map, List.map_map]
  exact List.map_congr_left fun c hc => lower_u8 c (hl c hc)
set_option maxRecDepth 100000 in
theorem low_byt {l : List Int} (hl : Byt l) : Byt (l.map lowB) := fun c hc => by
  obtain ⟨d, hd, rfl⟩ := List.mem_map.1 hc
  have := hl d hd
  unfold lowB
  split <;> omega
set_option maxRecDepth 100000 in
/-- a beginning -/
theorem pre_link : ∀ (p l : List Int), Byt p → Byt l → ((p.map u8I).isPrefixOf (l.map u8I) = decide (l.take p.length = p))
  | [], l, _, _ => by simp
  | a :: p, [], _, _ => by simp
  | a :: p, b :: l, hp, hl => by
    have ih := pre_link p l (fun c hc => hp c (by simp [hc])) (fun c hc => hl c (by simp [hc]))
    have ha := hp a (by simp)
    have hb := hl b (by simp)
    simp only [List.map_cons, List.isPrefixOf, ih, List.length_cons, List.take_succ_cons, List.cons.injEq]
    by_cases e : a = b
    · subst e; simp
    · have : ¬ u8I a = u8I b := fun h => e (u8I_inj ha hb h)
      have e2 : ¬ b = a := fun h => e h.symm
      simp [this, e2]
set_option maxRecDepth 100000 in
theorem strOf_u8 (l : List Int) : (⟨(l.map u8I).toArray⟩ : ByteArray) = strOf l := rfl
/-- digits that stand ahead -/
def digC : List UInt8 := [48, 49, 50, 51, 52, 53, 54, 55, 56, 57]
set_option maxRecDepth 100000 in
theorem digC_u8 (c : Int) (hc : 0 ≤ c ∧ c ≤ 255) : digC.contains (u8I c) = dig c := by
  obtain ⟨n, rfl⟩ : ∃ n : Nat, c = (n : Int) := ⟨c.toNat, by omega⟩
  have hn : n < 256 := by omega
  clear hc
  revert n
  decide +kernel
set_option maxRecDepth 100000 in
theorem trim_digs : ∀ (l : List Int), Byt l → Lib.trimLeftS (l.map u8I) digC = (l.drop (digs l)).map u8I
  | [], _ => rfl
  | c :: r, hl => by
    have ih := trim_digs r (fun d hd => hl d (by simp [hd]))
    unfold Lib.trimLeftS at ih ⊢
    rw [List.map_cons, List.dropWhile_cons, digC_u8 c (hl c (by simp))]
    unfold digs
    by_cases h : dig c = true
    · rw [if_pos h, if_pos h, List.drop_succ_cons]; exact ih
    · rw [if_neg h, if_neg h]; rfl
set_option maxRecDepth 100000 in
theorem digs_le : ∀ l : List Int, digs l ≤ l.length
  | [] => Nat.le_refl _
  | c :: r => by unfold digs; split
                 · have := digs_le r; simp; omega
                 · simp
end Go.Proofs.YtdameoejigpnhabGreatDoor
namespace Go.Proofs.YtdameoejigpnhabGreatDoor
open Go.RowKit
set_option linter.unusedVariables false

/-- bytes and a text are the same as far as both go -/
def mtB (b s : List Int) : Prop := b.take (min b.length s.length) = s.take (min b.length s.length)
set_option maxRecDepth 100000 in
theorem mtB_iff (b s : List Int) : mtB b s ↔ b.take s.length = s.take b.length := by
  unfold mtB
  by_cases h : b.length ≤ s.length
  · rw [Nat.min_eq_left h, List.take_of_length_le (Nat.le_refl _), List.take_of_length_le h]
  · rw [Nat.min_eq_right (by omega), List.take_of_length_le (Nat.le_refl s.length), List.take_of_length_le (l := s) (by omega)]
/-- what cut answers: the error -/
def ctE (b s : List Int) : Int := if b.take (min b.length s.length) ≠ s.take (min b.length s.length) then 4 else if b.length < s.length then 3 else 0
set_option maxRecDepth 100000 in
theorem ctE_no {b s : List Int} (h : ¬ mtB b s) : ctE b s = 4 := by unfold ctE; exact if_pos h
set_option maxRecDepth 100000 in
theorem ctE_short {b s : List Int} (h : mtB b s) (hl : b.length < s.length) : ctE b s = 3 := by unfold ctE; rw [if_neg (fun k => k h), if_pos hl]
set_option maxRecDepth 100000 in
theorem ctE_ok {b s : List Int} (h : mtB b s) (hl : ¬ b.length < s.length) : ctE b s = 0 := by unfold ctE; rw [if_neg (fun k => k h), if_neg hl]
/-- a length and two line ends: the number, how many bytes, the error -/
def lnC (b : List Int) : Nat × Nat × Int :=
  if b.length = 0 then (0, 0, 3) else match rdD (b.take (digs b)) with
  | none => (0, 0, 4)
  | some n => if 8192 < n then (0, 0, 4) else (n, digs b + 4, ctE (b.drop (digs b)) [13, 10, 13, 10])
/-- what stands behind a first line -/
def rsC (b : List Int) (c : Int) : Int × List Int × Nat × Int :=
  if b.length < (ledL c).length then (0, [], 0, 3) else
  if (lnC (b.drop (ledL c).length)).2.2 ≠ 0 then (0, [], 0, (lnC (b.drop (ledL c).length)).2.2) else
  if (b.drop ((ledL c).length + (lnC (b.drop (ledL c).length)).2.1)).length < (lnC (b.drop (ledL c).length)).1 then (0, [], 0, 3) else
  (c, (b.drop ((ledL c).length + (lnC (b.drop (ledL c).length)).2.1)).take (lnC (b.drop (ledL c).length)).1, (ledL c).length + (lnC (b.drop (ledL c).length)).2.1 + (lnC (b.drop (ledL c).length)).1, 0)
set_option maxRecDepth 100000 in
theorem ln_cnt (b : List Int) (h0 : b.length ≠ 0) : (cntR b) = if (lnC b).2.2 ≠ 0 then ([], 0, (lnC b).2.2) else if (b.drop (lnC b).2.1).length < (lnC b).1 then ([], 0, 3) else ((b.drop (lnC b).2.1).take (lnC b).1, (lnC b).2.1 + (lnC b).1, 0) := by
  unfold cntR lnC
  rw [if_neg h0]
  cases hr : rdD (b.take (digs b)) with
  | none => simp
  | some n =>
    simp only
    by_cases h1 : 8192 < n
    · rw [if_pos h1, if_pos h1]; simp
    · rw [if_neg h1, if_neg h1]
      have hdl := digs_le b
      have hlen : (b.drop (digs b)).length = b.length - digs b := List.length_drop ..
      by_cases h2 : (b.drop (digs b)).take 4 = [13, 10, 13, 10]
      · have hl4 : 4 ≤ (b.drop (digs b)).length := by
          have := congrArg List.length h2
          rw [List.length_take] at this
          simp at this ⊢
          omega
        have hm : mtB (b.drop (digs b)) [13, 10, 13, 10] := by
          rw [mtB_iff]
          show (b.drop (digs b)).take 4 = _
          rw [h2, List.take_of_length_le (by simpa using hl4)]
        rw [if_pos h2, ctE_ok hm (by simp at hl4 ⊢; omega)]
        simp only [ne_eq, not_true_eq_false, if_false]
        by_cases h3 : b.length < digs b + 4 + n
        · rw [if_pos h3, if_pos (by rw [List.length_drop]; omega)]
        · rw [if_neg h3, if_neg (by rw [List.length_drop]; omega)]
      · rw [if_neg h2]
        by_cases h3 : (b.drop (digs b)).take 4 = [13, 10, 13, 10].take (b.length - digs b)
        · have hm : mtB (b.drop (digs b)) [13, 10, 13, 10] := by
            rw [mtB_iff, hlen]; exact h3
          have hs : (b.drop (digs b)).length < [13, 10, 13, 10].length := by
            rw [hlen]
            by_cases h4 : b.length - digs b < 4
            · exact h4
            · exfalso; apply h2; rw [h3, List.take_of_length_le (by simp; omega)]
          rw [if_pos h3, ctE_short hm hs]; simp
        · have hm : ¬ mtB (b.drop (digs b)) [13, 10, 13, 10] := by
            rw [mtB_iff, hlen]; exact h3
          rw [if_neg h3, ctE_no hm]; simp
set_option maxRecDepth 100000 in
theorem rs_short {b : List Int} {c : Int} (h : b.length ≤ (ledL c).length) : rsC b c = (0, [], 0, 3) := by
  unfold rsC
  by_cases h1 : b.length < (ledL c).length
  · rw [if_pos h1]
  · rw [if_neg h1, List.drop_of_length_le (by omega : b.length ≤ (ledL c).length)]
    rw [show lnC [] = (0, 0, 3) from rfl, if_pos (by simp)]
set_option maxRecDepth 100000 in
theorem rs_long {b : List Int} {c : Int} (h : (ledL c).length < b.length) : rsC b c = if (cntR (b.drop (ledL c).length)).2.2 ≠ 0 then (0, [], 0, (cntR (b.drop (ledL c).length)).2.2) else (c, (cntR (b.drop (ledL c).length)).1, (ledL c).length + (cntR (b.drop (ledL c).length)).2.1, 0) := by
  unfold rsC
  rw [if_neg (by omega), ln_cnt _ (by rw [List.length_drop]; omega)]
  generalize lnC (b.drop (ledL c).length) = Z
  obtain ⟨n, k, e⟩ := Z
  simp only
  by_cases h1 : e ≠ 0
  · rw [if_pos h1, if_pos h1, if_pos h1]
  · rw [if_neg h1, if_neg h1]
    rw [List.drop_drop]
    by_cases h2 : (b.drop ((ledL c).length + k)).length < n
    · rw [if_pos h2, if_pos h2, if_pos (by simp)]
    · rw [if_neg h2, if_neg h2, if_neg (by simp), Nat.add_assoc]
set_option maxRecDepth 100000 in
/-- the first status that fits tells the answer -/
theorem ra_fit {b : List Int} {c : Int} (hc : c ∈ cdsL) (hm : mtB b (ledL c)) : raR b = rsC b c := by
  rw [mtB_iff] at hm
  have hl12 := led_long c hc
  by_cases h1 : b.length ≤ (ledL c).length
  · rw [rs_short h1]
    unfold raR
    rw [ra_short b cdsL false ?_]
    · rw [if_pos]
      refine .inr ⟨c, hc, h1, ?_⟩
      rw [← hm, List.take_of_length_le h1]
    · intro d hd hlt he
      have hd12 := led_long d hd
      have hbp : (ledL c).take b.length = b := by rw [← hm, List.take_of_length_le h1]
      have e1 : ledL d = (ledL c).take (ledL d).length := by
        have h9 := he
        rw [← hbp, List.take_take, Nat.min_eq_left (by omega)] at h9
        exact h9.symm
      have e2 : ld12 d = ld12 c := by unfold ld12; rw [e1, List.take_take, Nat.min_eq_left hd12]
      have := led_inj d hd c hc e2
      subst this
      omega
  · have hb : b.take (ledL c).length = ledL c := by rw [hm, List.take_of_length_le (by omega)]
    have h12 : b.take 12 = ld12 c := by unfold ld12; rw [← hb, List.take_take, Nat.min_eq_left hl12]
    rw [rs_long (by omega)]
    exact ra_at hc h12 (by omega) hb cdsL false (fun _ h => h) hc
set_option maxRecDepth 100000 in
theorem ra_none {b : List Int} (h : ∀ c ∈ cdsL, ¬ mtB b (ledL c)) : raR b = (0, [], 0, 4) := by
  unfold raR
  rw [ra_short b cdsL false ?_, if_neg]
  · rintro (h1 | ⟨d, hd, h1, h2⟩)
    · cases h1
    · exact h d hd ((mtB_iff _ _).2 (by rw [h2, List.take_of_length_le h1]))
  · intro d hd hlt he
    exact h d hd ((mtB_iff _ _).2 (by rw [he, List.take_of_length_le (by omega)]))
end Go.Proofs.YtdameoejigpnhabGreatDoor
