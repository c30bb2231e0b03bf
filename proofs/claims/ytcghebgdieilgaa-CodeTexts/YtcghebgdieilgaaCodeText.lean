/- Code's text, there and back. No walk. -/
import Derived.Test.YtcghebgdieilgaaCodeFlow
import Derived.Test.YtcghebgdieilgaaSeqMath
import Derived.Test.YtcghebgdieilgaaHistText2
namespace Go.Proofs.Ytcghebgdieilgaa
open Go.RowKit
set_option linter.unusedVariables false

/-- an instruction's bytes -/
def icL (x : Ic) : List Int := x.o :: (if 0 < nkO x.o then varL (zigV x.n) else [])
def cdL (l : List Ic) : List Int := varL (l.length : Int) ++ sqW icL l
/-- one instruction: how many bytes, the error -/
def rdI (b : List Int) : Ic × Nat × Int :=
  if b.length = 0 then (ic0, 0, 3) else
  if isO (b.getD 0 0) = false then (ic0, 0, 15) else
  if 0 < nkO (b.getD 0 0) then
    (if (rd (b.drop 1) 0 0).2.2 ≠ 0 then (ic0, 0, (rd (b.drop 1) 0 0).2.2) else (⟨b.getD 0 0, zagV (rd (b.drop 1) 0 0).1⟩, 1 + (rd (b.drop 1) 0 0).2.1.toNat, 0))
  else (⟨b.getD 0 0, 0⟩, 1, 0)
/-- all of a text: the instructions, the place behind them, the error -/
def rdC (b : List Int) : List Ic × Nat × Int := if (rd b 0 0).2.2 ≠ 0 then ([], 0, (rd b 0 0).2.2) else if 200 < (rd b 0 0).1 then ([], 0, 5) else sqF rdI b (rd b 0 0).1.toNat (rd b 0 0).2.1.toNat
/-- what bytes say: the code, the error -/
def rdK (b : List Int) : List Ic × Int := if (rdC b).2.2 ≠ 0 then ([], (rdC b).2.2) else if (rdC b).2.1 < b.length then ([], 6) else if (thr (rdC b).1).2.2 ≠ 0 then ([], (thr (rdC b).1).2.2) else ((rdC b).1, 0)
/-- an instruction that can be written and read again -/
def OkI (x : Ic) : Prop := isO x.o = true ∧ V64 x.n ∧ (nkO x.o = 0 → x.n = 0)
set_option maxRecDepth 100000 in
theorem canI_ok {m : Nat} {x : Ic} (h : canI m x = true) (hv : V64 x.n) : OkI x := by
  refine ⟨canI_is h, hv, fun h0 => ?_⟩
  unfold canI numB at h
  rw [h0] at h
  simp at h
  exact h.2
set_option maxRecDepth 100000 in
theorem icL_byt {x : Ic} (h : OkI x) : Byt (icL x) := by
  have h1 := (isO_iff _).1 h.1
  have hz := zig_bd x.n h.2.1.1 h.2.1.2
  refine Byt.cons (by omega) ?_
  split
  · exact varL_byt _ hz.1 hz.2
  · exact Byt.nil
set_option maxRecDepth 100000 in
theorem icL_len (x : Ic) : 1 ≤ (icL x).length ∧ (icL x).length ≤ 11 := by
  unfold icL
  rw [List.length_cons]
  have := varL_length (zigV x.n)
  split <;> simp <;> omega
set_option maxRecDepth 100000 in
theorem sqW_len (l : List Ic) : (sqW icL l).length ≤ 11 * l.length := by
  induction l with
  | nil => exact Nat.le_refl _
  | cons x t ih =>
    have := icL_len x
    show (icL x ++ sqW icL t).length ≤ _
    rw [List.length_append, List.length_cons]; omega
set_option maxRecDepth 100000 in
theorem sqW_byt : ∀ (l : List Ic), (∀ x ∈ l, OkI x) → Byt (sqW icL l)
  | [], _ => Byt.nil
  | x :: t, h => Byt.append (icL_byt (h x (by simp))) (sqW_byt t (fun y hy => h y (by simp [hy])))
set_option maxRecDepth 100000 in
theorem cdL_byt {l : List Ic} (h : ∀ x ∈ l, OkI x) (hl : l.length ≤ 1000000) : Byt (cdL l) := Byt.append (varL_byt _ (by omega) (by omega)) (sqW_byt l h)
set_option maxRecDepth 100000 in
theorem cdL_len (l : List Ic) : (cdL l).length ≤ 10 + 11 * l.length := by
  unfold cdL; rw [List.length_append]
  have := varL_length (l.length : Int)
  have := sqW_len l
  omega
set_option maxRecDepth 100000 in
/-- an instruction is read as it was written, whatever stands behind -/
theorem rdI_icL (x : Ic) (t : List Int) (h : OkI x) : rdI (icL x ++ t) = (x, (icL x).length, 0) := by
  have hz := zig_bd x.n h.2.1.1 h.2.1.2
  have hl : (icL x ++ t).length ≠ 0 := by rw [List.length_append]; have := icL_len x; omega
  have hg : (icL x ++ t).getD 0 0 = x.o := rfl
  unfold rdI
  rw [if_neg hl, hg, if_neg (by rw [h.1]; decide)]
  by_cases hk : 0 < nkO x.o
  · rw [if_pos hk]
    have e : icL x = x.o :: varL (zigV x.n) := by unfold icL; rw [if_pos hk]
    have hr := rd_var (zigV x.n) hz.1 hz.2 t
    have e2 : (icL x ++ t).drop 1 = varL (zigV x.n) ++ t := by rw [e]; rfl
    rw [e2, hr]
    simp only
    rw [if_neg (fun h => h rfl), zag_zig, e, List.length_cons, Int.toNat_natCast, Nat.add_comm]
  · rw [if_neg hk]
    have hn0 : nkO x.o = 0 := by have := tbl_bd h.1; omega
    have e : icL x = [x.o] := by unfold icL; rw [if_neg hk]
    rw [e, ← h.2.2 hn0]; rfl
set_option maxRecDepth 100000 in
theorem rdI_back (b : List Int) (x : Ic) (m : Nat) (hb : Byt b) (h : rdI b = (x, m, 0)) : icL x = b.take m ∧ m ≤ b.length ∧ OkI x := by
  unfold rdI at h
  by_cases h0 : b.length = 0
  · rw [if_pos h0] at h; cases h
  rw [if_neg h0] at h
  match b, h0 with
  | [], h0 => exact absurd rfl h0
  | c :: r, _ =>
    have e0 : (c :: r).getD 0 0 = c := rfl
    rw [e0] at h
    by_cases hi : isO c = false
    · rw [if_pos hi] at h; cases h
    rw [if_neg hi] at h
    have hi1 : isO c = true := by cases hv : isO c with
      | true => rfl
      | false => exact absurd hv hi
    by_cases hk : 0 < nkO c
    · rw [if_pos hk] at h
      have e2 : (c :: r).drop 1 = r := rfl
      rw [e2] at h
      have hq : Byt r := fun d hd => hb d (by simp [hd])
      rcases hr : rd r 0 0 with ⟨u, n, e⟩
      have hbd := rd_bd r 0 0 hq (by omega) (by omega) (by decide)
      rw [hr] at h hbd
      simp only at h hbd
      by_cases he : e ≠ 0
      · rw [if_pos he] at h
        exact absurd (congrArg (fun z : Ic × Nat × Int => z.2.2) h) he
      · rw [if_neg he] at h
        have he0 : e = 0 := Classical.byContradiction he
        subst he0
        obtain ⟨k, k1, k2, k3, k4, k5⟩ := rd_back hq hr
        cases h
        subst k3
        rw [Int.toNat_natCast]
        refine ⟨?_, by rw [List.length_cons]; omega, hi1, zag_bd u hbd.1 hbd.2, fun hn => absurd hn (show nkO c ≠ 0 by omega)⟩
        unfold icL
        simp only
        rw [if_pos hk, zig_zag u k4, k5, Nat.add_comm 1 k]
        rfl
    · rw [if_neg hk] at h
      cases h
      refine ⟨?_, by simp, hi1, (show V64 0 from ⟨by decide, by decide⟩), fun _ => rfl⟩
      unfold icL
      simp only
      rw [if_neg hk]; rfl
set_option maxRecDepth 100000 in
/-- code is read as it was written -/
theorem rdK_txt {l : List Ic} (h : (thr l).2.2 = 0) (hv : ∀ x ∈ l, V64 x.n) : rdK (cdL l) = (l, 0) := by
  obtain ⟨h1, h2, h3, _⟩ := thr_flow h
  have hok : ∀ x ∈ l, OkI x := fun x hx => by
    obtain ⟨j, hj, e⟩ := List.getElem_of_mem hx
    have := h3 j hj
    rw [List.getD_eq_getElem?_getD, List.getElem?_eq_getElem hj] at this
    rw [← e]
    exact canI_ok this (by rw [e]; exact hv x hx)
  have hr := rd_var (l.length : Int) (by omega) (by omega) (sqW icL l)
  have hf := sqF_there (one := rdI) (wr := icL) (ok := OkI) rdI_icL l (varL (l.length : Int)) [] hok
  rw [List.append_nil] at hf
  have hC : rdC (cdL l) = (l, (varL (l.length : Int)).length + (sqW icL l).length, 0) := by
    unfold rdC cdL
    rw [hr]
    simp only [Int.toNat_natCast]
    rw [if_neg (fun h => h rfl), if_neg (by omega), hf]
  unfold rdK
  rw [hC]
  simp only
  rw [if_neg (fun h => h rfl), if_neg (by unfold cdL; rw [List.length_append]; omega), if_neg (fun k => k h)]
set_option maxRecDepth 100000 in
theorem rdK_err {b : List Int} (h : (rdK b).2 ≠ 0) : (rdK b).1 = [] := by
  unfold rdK at h ⊢
  split
  · rfl
  · rename_i h1
    rw [if_neg h1] at h
    split
    · rfl
    · rename_i h2
      rw [if_neg h2] at h
      split
      · rfl
      · rename_i h3
        rw [if_neg h3] at h
        exact absurd rfl h
set_option maxRecDepth 100000 in
/-- what is read fits together; written again, it is the bytes -/
theorem rdK_back {b : List Int} {l : List Ic} (hb : Byt b) (h : rdK b = (l, 0)) : (thr l).2.2 = 0 ∧ (∀ x ∈ l, V64 x.n) ∧ cdL l = b := by
  unfold rdK at h
  by_cases h1 : (rdC b).2.2 ≠ 0
  · rw [if_pos h1] at h; exact absurd (congrArg Prod.snd h) h1
  rw [if_neg h1] at h
  by_cases h2 : (rdC b).2.1 < b.length
  · rw [if_pos h2] at h; cases h
  rw [if_neg h2] at h
  by_cases h3 : (thr (rdC b).1).2.2 ≠ 0
  · rw [if_pos h3] at h; exact absurd (congrArg Prod.snd h) h3
  rw [if_neg h3] at h
  obtain ⟨rfl, _⟩ := Prod.mk.inj h
  refine ⟨Classical.byContradiction h3, ?_⟩
  have hC : rdC b = ((rdC b).1, (rdC b).2.1, 0) := by rw [← Classical.byContradiction h1]
  generalize (rdC b).1 = l at hC
  generalize (rdC b).2.1 = q at hC h2
  unfold rdC at hC
  rcases hr : rd b 0 0 with ⟨u, n, e⟩
  rw [hr] at hC
  simp only at hC
  by_cases he : e ≠ 0
  · rw [if_pos he] at hC
    exact absurd (congrArg (fun z : List Ic × Nat × Int => z.2.2) hC) he
  rw [if_neg he] at hC
  have he0 : e = 0 := Classical.byContradiction he
  subst he0
  obtain ⟨k, k1, k2, k3, k4, k5⟩ := rd_back hb hr
  subst k3
  by_cases h5 : 200 < u
  · rw [if_pos h5] at hC; cases hC
  rw [if_neg h5, Int.toNat_natCast] at hC
  obtain ⟨i1, i2, i3, i4, i5⟩ := sqF_back (Bt := Byt) (ok := OkI) (fun b n h => h.drop n) rdI_back hb _ _ _ _ hC k2
  refine ⟨fun x hx => (i5 x hx).2.1, ?_⟩
  unfold cdL
  rw [i1, i4, show ((u.toNat : Nat) : Int) = u by omega, k5, List.take_of_length_le (l := b.drop k) (by rw [List.length_drop]; omega), List.take_append_drop]
end Go.Proofs.Ytcghebgdieilgaa
