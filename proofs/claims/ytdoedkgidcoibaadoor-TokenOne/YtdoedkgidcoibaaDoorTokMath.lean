/- The text of a token; which texts are such. -/
import Derived.Test.YtdoedkgidcoibaaDoorJoinMath
import Derived.Test.YtdoedkgidcoibaaDoorBackMath
import Derived.Test.YtdoedkgidcoibaaDoorName
namespace Go.Proofs.YtdoedkgidcoibaaDoor
open Go.RowKit
set_option linter.unusedVariables false

/-- a point -/
def pt : ByteArray := ⟨#[46]⟩
/-- what is signed -/
def claimB (n : ByteArray) (v : Int) : ByteArray := n ++ pt ++ decS v
/-- and the letters of a sum behind it -/
def formB (n : ByteArray) (v : Int) (l : List Int) : ByteArray := claimB n v ++ pt ++ strOf (hexL l)
/-- what a token may say -/
structure Says (n : ByteArray) (v : Int) (l : List Int) : Prop where
  name : NameP n
  lo : 0 ≤ v
  hi : v ≤ 1099511627776
  len : l.length = 32
  byt : Byt l
/-- no point in it -/
def NoPt (s : ByteArray) : Prop := ∀ j, j < s.size → sb s j ≠ 46
theorem cb46 : cb 46 = 46 := by decide
theorem pt_eq : mkB [cb 46] = pt := rfl
theorem pt_size : pt.size = 1 := rfl
theorem NoPt.not {s : ByteArray} (h : NoPt s) : cb 46 ∉ s.data.toList := by
  intro hm
  obtain ⟨j, hj, e⟩ := List.getElem_of_mem hm
  exact h j (by rw [Lib.size_eq]; exact hj) ((cb_iff (by decide) hj).1 e)
theorem name_noPt {n : ByteArray} (h : NameP n) : NoPt n := by
  intro j hj e
  have := h.2.2.2 j hj
  rw [e] at this
  exact absurd this (by decide)
theorem dec_noPt {v : Int} (h : 0 ≤ v) : NoPt (decS v) := by
  intro j hj e
  have hl : (decS v).data.toList = Lib.decDigits v.toNat := by
    show Lib.itoa v = _
    rw [← itoa_nat, show ((v.toNat : Nat) : Int) = v by omega]
  have := sb_dec hl hj
  rw [e] at this
  omega
theorem hx_fin : ∀ n : Fin 16, hx n.val ≠ 46 := by decide +kernel
theorem hx_pt (n : Nat) : hx n ≠ 46 := by
  by_cases h : n < 16
  · exact hx_fin ⟨n, h⟩
  · unfold hx sb
    have : hexS.data.toList.length = 16 := rfl
    rw [List.getD_eq_getElem?_getD, List.getElem?_eq_none (by omega)]
    decide
theorem hexL_pt (l : List Int) : ∀ c ∈ hexL l, c ≠ 46 := by
  intro c hc
  simp only [hexL, List.mem_flatMap] at hc
  obtain ⟨d, _, h⟩ := hc
  simp at h
  rcases h with rfl | rfl <;> exact hx_pt _
theorem hex_noPt (l : List Int) : NoPt (strOf (hexL l)) := by
  intro j hj
  rw [strOf_size] at hj
  rw [sb_strOf (hexL_byt l) j hj, List.getD_eq_getElem?_getD, List.getElem?_eq_getElem hj, Option.getD_some]
  exact hexL_pt l _ (List.getElem_mem hj)
theorem split_pt (c : UInt8) (s : List UInt8) : ∀ p : List UInt8, c ∉ p → splitL c (p ++ c :: s) = p :: splitL c s
  | [], _ => by rw [List.nil_append, splitL, if_pos rfl]
  | b :: p, h => by
    have hb : ¬ b = c := fun e => h (by rw [e]; simp)
    have ih := split_pt c s p (fun e => h (by simp [e]))
    rw [List.cons_append, splitL, if_neg hb, ih]
theorem split_whole (c : UInt8) : ∀ p : List UInt8, c ∉ p → splitL c p = [p]
  | [], _ => rfl
  | b :: p, h => by
    have hb : ¬ b = c := fun e => h (by rw [e]; simp)
    have ih := split_whole c p (fun e => h (by simp [e]))
    rw [splitL, if_neg hb, ih]
theorem app_data (a b : ByteArray) : (a ++ b).data.toList = a.data.toList ++ b.data.toList := by simp
theorem pcs_pt {p s : ByteArray} (h : NoPt p) : pcs (cb 46) (p ++ pt ++ s) = p :: pcs (cb 46) s := by
  unfold pcs
  rw [app_data, app_data, show pt.data.toList = [cb 46] from rfl, List.append_assoc, List.singleton_append, split_pt _ _ _ h.not, List.map_cons, mkB_self]
theorem pcs_whole {p : ByteArray} (h : NoPt p) : pcs (cb 46) p = [p] := by
  unfold pcs
  rw [split_whole _ _ h.not, List.map_cons, mkB_self]; rfl
theorem form_assoc (n : ByteArray) (v : Int) (l : List Int) : formB n v l = n ++ pt ++ (decS v ++ pt ++ strOf (hexL l)) := by
  unfold formB claimB
  simp only [app_assoc]
theorem pcs_form {n : ByteArray} {v : Int} {l : List Int} (h : Says n v l) : pcs (cb 46) (formB n v l) = [n, decS v, strOf (hexL l)] := by
  rw [form_assoc, pcs_pt (name_noPt h.name), pcs_pt (dec_noPt h.lo), pcs_whole (hex_noPt l)]
/-- of three pieces: what they say -/
def pieceV (n t x : ByteArray) : Option (ByteArray × Int × List Int) :=
  match rdv t.data.toList, unhexV x with
  | some v, some l => if v ≤ 1099511627776 ∧ nameB n = true ∧ x.size = 64 then some (n, v, l) else none
  | _, _ => none
/-- what a text says -/
def readV (s : ByteArray) : Option (ByteArray × Int × List Int) :=
  match pcs (cb 46) s with
  | [n, t, x] => pieceV n t x
  | _ => none
theorem pieceV_some {n t x m : ByteArray} {v : Int} {l : List Int} (h : pieceV n t x = some (m, v, l)) : m = n ∧ decS v = t ∧ strOf (hexL l) = x ∧ Says n v l := by
  unfold pieceV at h
  split at h
  · rename_i v' l' h1 h2
    split at h
    · rename_i hc
      cases h
      obtain ⟨e1, e2, _⟩ := rd_back h1
      have e3 := hex_un h2
      refine ⟨rfl, e1, e3, (nameB_iff _).1 hc.2.1, e2, hc.1, ?_, (un_len h2).2⟩
      have : (strOf (hexL l)).size = x.size := by rw [e3]
      rw [strOf_size, hexL_length] at this
      omega
    · cases h
  · cases h
theorem pieceV_form {n : ByteArray} {v : Int} {l : List Int} (h : Says n v l) : pieceV n (decS v) (strOf (hexL l)) = some (n, v, l) := by
  have h1 := rdv_yes (s := decS v) h.lo (by have := h.hi; omega) rfl
  have h2 := un_hex h.byt
  unfold pieceV
  rw [h1, h2]
  simp only []
  rw [if_pos ⟨h.hi, (nameB_iff n).2 h.name, by rw [strOf_size, hexL_length, h.len]⟩]
theorem pv_rd {n t x : ByteArray} (h : rdv t.data.toList = none) : pieceV n t x = none := by unfold pieceV; rw [h]
theorem pv_un {n t x : ByteArray} (h : unhexV x = none) : pieceV n t x = none := by
  unfold pieceV; rw [h]; split
  · rename_i h1; cases h1
  · rfl
theorem pv_if {n t x : ByteArray} {v : Int} (h : rdv t.data.toList = some v) (hn : ¬ (v ≤ 1099511627776 ∧ nameB n = true ∧ x.size = 64)) : pieceV n t x = none := by
  unfold pieceV; rw [h]; split
  · rename_i h1 _; cases h1; rw [if_neg hn]
  · rfl
theorem pv_ok {n t x : ByteArray} {v : Int} {l : List Int} (h : rdv t.data.toList = some v) (hu : unhexV x = some l) (hn : v ≤ 1099511627776 ∧ nameB n = true ∧ x.size = 64) : pieceV n t x = some (n, v, l) := by
  unfold pieceV; rw [h, hu]; simp only []; rw [if_pos hn]
theorem jk_three (a b c : ByteArray) : jk (cb 46) [a, b, c] 3 = a ++ pt ++ b ++ pt ++ c := by
  have e1 := jk_more (c := cb 46) (L := [a, b, c]) (i := 2) (by decide)
  have e2 := jk_more (c := cb 46) (L := [a, b, c]) (i := 1) (by decide)
  have e3 := jk_one (c := cb 46) (L := [a, b, c])
  rw [e1, e2, e3]
  show mkB [] ++ a ++ pt ++ b ++ pt ++ c = _
  rw [empty_app]
theorem readV_some {s n : ByteArray} {v : Int} {l : List Int} (h : readV s = some (n, v, l)) : s = formB n v l ∧ Says n v l := by
  unfold readV at h
  split at h
  · rename_i a t x hp
    obtain ⟨rfl, rfl, rfl, hs⟩ := pieceV_some h
    have hj := jk_all (cb 46) s
    rw [hp] at hj
    refine ⟨?_, hs⟩
    rw [← hj]
    exact jk_three _ _ _
  · cases h
theorem readV_form {n : ByteArray} {v : Int} {l : List Int} (h : Says n v l) : readV (formB n v l) = some (n, v, l) := by
  unfold readV
  rw [pcs_form h]
  exact pieceV_form h
theorem form_inj {n m : ByteArray} {v u : Int} {l k : List Int} (h : Says n v l) (h2 : Says m u k) (e : formB n v l = formB m u k) : n = m ∧ v = u ∧ l = k := by
  have h3 := readV_form h
  rw [e, readV_form h2] at h3
  cases h3
  exact ⟨rfl, rfl, rfl⟩
theorem claim_inj {n m : ByteArray} {v u : Int} {l k : List Int} (h : Says n v l) (h2 : Says m u k) (e : claimB n v = claimB m u) : n = m ∧ v = u := by
  have h3 : Says m u l := ⟨h2.name, h2.lo, h2.hi, h.len, h.byt⟩
  have := form_inj h h3 (by unfold formB; rw [e])
  exact ⟨this.1, this.2.1⟩
theorem form_size {n : ByteArray} {v : Int} {l : List Int} (h : l.length = 32) : (formB n v l).size = (claimB n v).size + 65 := by
  unfold formB
  rw [ByteArray.size_append, ByteArray.size_append, pt_size, strOf_size, hexL_length, h]
theorem claim_size (n : ByteArray) (v : Int) : (claimB n v).size = n.size + 1 + (decS v).size := by
  unfold claimB
  rw [ByteArray.size_append, ByteArray.size_append, pt_size]
/-- the byte at a place of two texts -/
theorem sb_left {a b : ByteArray} {j : Nat} (h : j < a.size) : sb (a ++ b) j = sb a j := by
  unfold sb
  rw [app_data, List.getD_eq_getElem?_getD, List.getD_eq_getElem?_getD, List.getElem?_append_left (by rw [← Lib.size_eq]; exact h)]
theorem sb_right {a b : ByteArray} (j : Nat) : sb (a ++ b) (a.size + j) = sb b j := by
  unfold sb
  rw [app_data, List.getD_eq_getElem?_getD, List.getD_eq_getElem?_getD, List.getElem?_append_right (by rw [← Lib.size_eq]; omega), ← Lib.size_eq, Nat.add_sub_cancel_left]
theorem sb_pt : sb pt 0 = 46 := rfl
/-- where the two points of a token are -/
theorem form_first {n : ByteArray} {v : Int} {l : List Int} : sb (formB n v l) n.size = 46 := by
  rw [form_assoc, app_assoc]
  have := sb_right (a := n) (b := pt ++ (decS v ++ pt ++ strOf (hexL l))) 0
  rw [Nat.add_zero] at this
  rw [this, sb_left (by decide)]; rfl
theorem form_ahead {n : ByteArray} {v : Int} {l : List Int} (h : NameP n) {j : Nat} (hj : j < n.size) : sb (formB n v l) j ≠ 46 := by
  rw [form_assoc, app_assoc, sb_left hj]
  exact name_noPt h j hj
theorem form_second {n : ByteArray} {v : Int} {l : List Int} : sb (formB n v l) (claimB n v).size = 46 := by
  unfold formB
  rw [app_assoc]
  have := sb_right (a := claimB n v) (b := pt ++ strOf (hexL l)) 0
  rw [Nat.add_zero] at this
  rw [this, sb_left (by decide)]; rfl
theorem form_mid {n : ByteArray} {v : Int} {l : List Int} (h : 0 ≤ v) {j : Nat} (h1 : n.size + 1 ≤ j) (hj : j < (claimB n v).size) : sb (formB n v l) j ≠ 46 := by
  have hz := claim_size n v
  unfold formB
  rw [app_assoc, sb_left hj]
  unfold claimB
  obtain ⟨m, rfl⟩ : ∃ m, j = (n ++ pt).size + m := ⟨j - (n ++ pt).size, by rw [ByteArray.size_append, pt_size]; omega⟩
  rw [sb_right]
  rw [ByteArray.size_append, pt_size] at hj
  exact dec_noPt h m (by omega)
/-- the first point, the second one: whoever looks for them from the left finds them there -/
structure Scan (s : ByteArray) (i k : Nat) : Prop where
  le : i ≤ s.size
  free : ∀ j, j < i → sb s j ≠ 46
  hit : i < s.size → sb s i = 46
  lt : i < k
  free2 : ∀ j, i < j → j < k → sb s j ≠ 46
  hit2 : k < s.size → sb s k = 46
theorem Scan.form {n : ByteArray} {v : Int} {l : List Int} {i k : Nat} (hs : Says n v l) (h : Scan (formB n v l) i k) : i = n.size ∧ k = (claimB n v).size := by
  have hz := form_size (n := n) (v := v) hs.len
  have hc := claim_size n v
  have e1 : i = n.size := by
    rcases Nat.lt_trichotomy i n.size with g | g | g
    · exact absurd (h.hit (by omega)) (form_ahead hs.name g)
    · exact g
    · exact absurd form_first (h.free n.size g)
  subst e1
  refine ⟨rfl, ?_⟩
  have := h.lt
  rcases Nat.lt_trichotomy k (claimB n v).size with g | g | g
  · exact absurd (h.hit2 (by omega)) (form_mid hs.lo (by omega) g)
  · exact g
  · exact absurd form_second (h.free2 _ (by omega) g)
theorem extract_list (s : ByteArray) (i k : Nat) : (s.extract i k).data.toList = (s.data.toList.drop i).take (k - i) := Lib.extract_data s i k
theorem cut_three {s : ByteArray} {i k : Nat} (h : Scan s i k) (hi : i < s.size) (hk : k < s.size) : s = s.extract 0 i ++ pt ++ s.extract (i + 1) k ++ pt ++ s.extract (k + 1) s.size := by
  have hlt := h.lt
  have hi' : i < s.data.toList.length := by rw [← Lib.size_eq]; exact hi
  have hk' : k < s.data.toList.length := by rw [← Lib.size_eq]; exact hk
  have e1 : s.data.toList[i] = cb 46 := (cb_iff (by decide) hi').2 (h.hit hi)
  have e2 : s.data.toList[k] = cb 46 := (cb_iff (by decide) hk').2 (h.hit2 hk)
  apply ba_ext
  rw [app_data, app_data, app_data, app_data, extract_list, extract_list, show (s.extract (k + 1) s.size).data.toList = _ from rest_data s (k + 1), show pt.data.toList = [cb 46] from rfl, List.drop_zero, Nat.sub_zero, List.append_assoc, List.append_assoc, List.append_assoc]
  have a1 : s.data.toList = s.data.toList.take i ++ (cb 46 :: s.data.toList.drop (i + 1)) := by
    rw [← e1, ← List.drop_eq_getElem_cons hi', List.take_append_drop]
  have a2 : s.data.toList.drop (i + 1) = (s.data.toList.drop (i + 1)).take (k - (i + 1)) ++ s.data.toList.drop k := by
    have := (List.take_append_drop (k - (i + 1)) (s.data.toList.drop (i + 1))).symm
    rwa [List.drop_drop, show i + 1 + (k - (i + 1)) = k by omega] at this
  have a3 : s.data.toList.drop k = cb 46 :: s.data.toList.drop (k + 1) := by rw [List.drop_eq_getElem_cons hk', e2]
  rw [List.singleton_append, List.singleton_append, ← a3, ← a2, ← a1]
/-- what is found so is what the text says -/
theorem scan_read {s : ByteArray} {i k : Nat} (h : Scan s i k) (hi : i < s.size) (hk : k < s.size) : readV s = pieceV (s.extract 0 i) (s.extract (i + 1) k) (s.extract (k + 1) s.size) := by
  have hc := cut_three h hi hk
  cases hr : pieceV (s.extract 0 i) (s.extract (i + 1) k) (s.extract (k + 1) s.size) with
  | some r =>
    obtain ⟨n, v, l⟩ := r
    obtain ⟨e0, e1, e2, hs⟩ := pieceV_some hr
    have : s = formB (s.extract 0 i) v l := by
      conv => lhs; rw [hc]
      rw [← e1, ← e2]; rfl
    rw [this, readV_form hs, e0]
  | none =>
    cases hr2 : readV s with
    | none => rfl
    | some r =>
      exfalso
      obtain ⟨n, v, l⟩ := r
      obtain ⟨rfl, hs⟩ := readV_some hr2
      obtain ⟨rfl, rfl⟩ := h.form hs
      have hz := claim_size n v
      have x1 : (formB n v l).extract 0 n.size = n := by
        apply ba_ext
        rw [extract_list, form_assoc, app_assoc, app_data, List.drop_zero, Nat.sub_zero, Lib.size_eq, List.take_left']; rfl
      have x3 : (formB n v l).extract ((claimB n v).size + 1) (formB n v l).size = strOf (hexL l) := by
        apply ba_ext
        rw [show ((formB n v l).extract ((claimB n v).size + 1) (formB n v l).size).data.toList = _ from rest_data (formB n v l) ((claimB n v).size + 1)]
        unfold formB
        rw [app_data, List.drop_left']
        rw [← Lib.size_eq, ByteArray.size_append, pt_size]
      have x2 : (formB n v l).extract (n.size + 1) (claimB n v).size = decS v := by
        apply ba_ext
        rw [extract_list]
        unfold formB
        rw [app_assoc, app_data]
        unfold claimB
        rw [app_data, List.append_assoc, List.drop_left' (by rw [← Lib.size_eq, ByteArray.size_append, pt_size]), List.take_left']
        rw [← Lib.size_eq, ByteArray.size_append, ByteArray.size_append, pt_size]; omega
      rw [x1, x2, x3, pieceV_form hs] at hr
      cases hr
theorem scan_none {s : ByteArray} {i k : Nat} (h : Scan s i k) (hn : ¬ i < s.size ∨ ¬ k < s.size ∨ ¬ s.size = k + 65) : readV s = none := by
  cases hr2 : readV s with
  | none => rfl
  | some r =>
    exfalso
    obtain ⟨n, v, l⟩ := r
    obtain ⟨rfl, hs⟩ := readV_some hr2
    obtain ⟨rfl, rfl⟩ := h.form hs
    have hz := claim_size n v
    have hf := form_size (n := n) (v := v) hs.len
    omega
end Go.Proofs.YtdoedkgidcoibaaDoor
