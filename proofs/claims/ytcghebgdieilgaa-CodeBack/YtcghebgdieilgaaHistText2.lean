/- A history's text, there and back. No walk. -/
import Derived.Test.YtcghebgdieilgaaHistText
import Derived.Test.YtcghebgdieilgaaHOpr
namespace Go.Proofs.Ytcghebgdieilgaa
open Go.RowKit
set_option linter.unusedVariables false

/-- how many operations are done -/
def dnC : List Opr → Nat
  | [] => 0
  | o :: O => (if o.d = true then 1 else 0) + dnC O
set_option maxRecDepth 100000 in
theorem dnC_append : ∀ (A B : List Opr), dnC (A ++ B) = dnC A + dnC B
  | [], B => by simp [dnC]
  | o :: A, B => by
    rw [List.cons_append]
    show _ + dnC (A ++ B) = _ + dnC A + dnC B
    rw [dnC_append A B]; omega
set_option maxRecDepth 100000 in
theorem dnC_le : ∀ (A : List Opr), dnC A ≤ A.length
  | [] => Nat.le_refl _
  | o :: A => by
    have := dnC_le A
    show (if o.d = true then 1 else 0) + dnC A ≤ _
    rw [List.length_cons]; split <;> omega
set_option maxRecDepth 100000 in
theorem dnC_set {x : Ev} {i : Nat} : ∀ {O : List Opr}, dnC (setO O x i) = dnC O + opC O x.c
  | [] => rfl
  | o :: O => by
    have ih := dnC_set (x := x) (i := i) (O := O)
    show (if (set1 x i o).d = true then 1 else 0) + dnC (setO O x i) = (if o.d = true then 1 else 0) + dnC O + ((if o.d = false ∧ o.c = x.c then 1 else 0) + opC O x.c)
    rw [ih]
    unfold set1
    by_cases hc : o.c = x.c ∧ o.d = false
    · rw [if_pos hc, if_pos (show (endO o x.v i).d = true from rfl), if_neg (show ¬ o.d = true from by rw [hc.2]; decide), if_pos (show o.d = false ∧ o.c = x.c from ⟨hc.2, hc.1⟩)]; omega
    · rw [if_neg hc, if_neg (show ¬ (o.d = false ∧ o.c = x.c) from fun k => hc ⟨k.2, k.1⟩)]; omega
set_option maxRecDepth 100000 in
theorem ops_count {l : List Ev} (hl : His l) : ∀ n, n ≤ l.length → n = (opsL (l.take n)).length + dnC (opsL (l.take n))
  | 0, _ => rfl
  | n + 1, hn => by
    have ih := ops_count hl n (by omega)
    have hi := ops_inv hl n (by omega)
    have hz := stpE_zero (hl.err n hn)
    rw [opsL_snoc l n hn]
    generalize l.getD n ev0 = x at *
    generalize opsL (l.take n) = O at *
    unfold stpO
    by_cases hk : x.k = true
    · rw [if_pos hk, List.length_append, dnC_append]
      show _ = _ + 1 + (dnC O + ((if (newO x n).d = true then 1 else 0) + 0))
      rw [if_neg (show ¬ (newO x n).d = true from fun h => by cases h)]; omega
    · rw [if_neg hk, dnC_set, hi.wai]
      have hwt : wOf (l.take n) x.c = true := by
        cases hwx : wOf (l.take n) x.c with
        | true => rfl
        | false =>
          have : x.k = false := by cases hkx : x.k with
            | false => rfl
            | true => exact absurd hkx hk
          rw [hwx, this] at hz; exact absurd rfl hz.2.2
      rw [if_pos hwt]
      unfold setO
      rw [List.length_map]; omega
set_option maxRecDepth 100000 in
/-- a history has at most 128 events -/
theorem his_len {l : List Ev} (hl : His l) : l.length ≤ 128 := by
  have h1 := ops_count hl l.length (Nat.le_refl _)
  have h2 := dnC_le (opsL (l.take l.length))
  have h3 := cOf_le l hl l.length (Nat.le_refl _)
  rw [ops_len] at h1 h2
  omega
set_option maxRecDepth 100000 in
theorem His.can {l : List Ev} (h : His l) : ∀ x ∈ l, canE x = true := fun x hx => by
  obtain ⟨j, hj, e⟩ := List.getElem_of_mem hx
  have := (stpE_zero (h.err j hj)).1
  rw [List.getD_eq_getElem?_getD, List.getElem?_eq_getElem hj] at this
  rw [← e]; exact this
set_option maxRecDepth 100000 in
theorem evsL_byt : ∀ (l : List Ev), (∀ x ∈ l, canE x = true ∧ V64 x.v) → Byt (evsL l)
  | [], _ => Byt.nil
  | x :: t, h => Byt.append (evL_byt (h x (by simp)).1 (h x (by simp)).2) (evsL_byt t (fun y hy => h y (by simp [hy])))
set_option maxRecDepth 100000 in
theorem evsL_len : ∀ (l : List Ev), (evsL l).length ≤ 12 * l.length
  | [] => Nat.le_refl _
  | x :: t => by
    have h1 := evsL_len t
    have h2 := evL_len x
    show (evL x ++ evsL t).length ≤ _
    rw [List.length_append, List.length_cons]; omega
set_option maxRecDepth 100000 in
theorem txtL_byt {l : List Ev} (h : ∀ x ∈ l, canE x = true ∧ V64 x.v) (hl : l.length ≤ 1000000) : Byt (txtL l) := Byt.append (varL_byt _ (by omega) (by omega)) (evsL_byt l h)
set_option maxRecDepth 100000 in
theorem txtL_len (l : List Ev) : (txtL l).length ≤ 10 + 12 * l.length := by
  unfold txtL
  rw [List.length_append]
  have := varL_length (l.length : Int)
  have := evsL_len l
  omega
set_option maxRecDepth 100000 in
/-- a history is read as it was written -/
theorem rdH_txt {l : List Ev} (h : His l) (hv : ∀ x ∈ l, V64 x.v) : rdH (txtL l) = (l, 0) := by
  have hn := his_len h
  have hr := rd_var (l.length : Int) (by omega) (by omega) (evsL l)
  have hf := rdF_evs l (varL (l.length : Int)) [] (fun x hx => ⟨h.can x hx, hv x hx⟩)
  rw [List.append_nil] at hf
  unfold rdH txtL
  rw [hr]
  simp only [Int.toNat_natCast]
  rw [if_neg (fun h => h rfl), if_neg (by omega), hf]
  simp only
  rw [if_neg (fun h => h rfl), if_neg (by rw [List.length_append]; omega), h.chk, if_neg (fun h => h rfl)]
set_option maxRecDepth 100000 in
/-- an event that was read, written again -/
theorem rdE_back {b : List Int} {x : Ev} {m : Nat} (hb : Byt b) (h : rdE b = (x, m, 0)) : evL x = b.take m ∧ 2 ≤ m ∧ m ≤ b.length ∧ V64 x.v := by
  unfold rdE at h
  by_cases h0 : b.length = 0
  · rw [if_pos h0] at h; cases h
  rw [if_neg h0] at h
  by_cases h31 : 31 < b.getD 0 0
  · rw [if_pos h31] at h; cases h
  rw [if_neg h31] at h
  have hb0 := hb.getD 0
  match b, h0 with
  | [], h0 => exact absurd rfl h0
  | c :: r, _ =>
    have e0 : (c :: r).getD 0 0 = c := rfl
    rw [e0] at h h31 hb0
    by_cases hc : c % 2 = 1
    · rw [if_pos hc] at h
      by_cases h1 : (c :: r).length ≤ 1
      · rw [if_pos h1] at h; cases h
      rw [if_neg h1] at h
      match r, h1 with
      | [], h1 => exact absurd (Nat.le_refl 1) h1
      | o :: q, _ =>
        have e1 : (c :: o :: q).getD 1 0 = o := rfl
        have e2 : (c :: o :: q).drop 2 = q := rfl
        rw [e1, e2] at h
        by_cases h15 : 15 < o
        · rw [if_pos h15] at h; cases h
        rw [if_neg h15] at h
        have hq : Byt q := fun d hd => hb d (by simp [hd])
        rcases hr : rd q 0 0 with ⟨u, n, e⟩
        have hbd := rd_bd q 0 0 hq (by omega) (by omega) (by decide)
        rw [hr] at h hbd
        simp only at h hbd
        by_cases he : e ≠ 0
        · rw [if_pos he] at h
          exact absurd (congrArg (fun z : Ev × Nat × Int => z.2.2) h) he
        · rw [if_neg he] at h
          have he0 : e = 0 := Classical.byContradiction he
          subst he0
          obtain ⟨k, k1, k2, k3, k4, k5⟩ := rd_back hq hr
          cases h
          subst k3
          rw [Int.toNat_natCast]
          refine ⟨?_, by omega, by simp only [List.length_cons]; omega, zag_bd u hbd.1 hbd.2⟩
          unfold evL hdE
          simp only [if_true]
          rw [zig_zag u k4, k5, show 2 * (c / 2) + 1 = c by omega, Nat.add_comm 2 k]
          rfl
    · rw [if_neg hc] at h
      have e2 : (c :: r).drop 1 = r := rfl
      rw [e2] at h
      have hq : Byt r := fun d hd => hb d (by simp [hd])
      rcases hr : rd r 0 0 with ⟨u, n, e⟩
      have hbd := rd_bd r 0 0 hq (by omega) (by omega) (by decide)
      rw [hr] at h hbd
      simp only at h hbd
      by_cases he : e ≠ 0
      · rw [if_pos he] at h
        exact absurd (congrArg (fun z : Ev × Nat × Int => z.2.2) h) he
      · rw [if_neg he] at h
        have he0 : e = 0 := Classical.byContradiction he
        subst he0
        obtain ⟨k, k1, k2, k3, k4, k5⟩ := rd_back hq hr
        cases h
        subst k3
        rw [Int.toNat_natCast]
        refine ⟨?_, by omega, by simp only [List.length_cons]; omega, zag_bd u hbd.1 hbd.2⟩
        unfold evL hdE
        simp only [Bool.false_eq_true, if_false]
        rw [zig_zag u k4, k5, show 2 * (c / 2) + 0 = c by omega, Nat.add_comm 1 k]
        rfl
set_option maxRecDepth 100000 in
theorem Byt.drop {l : List Int} (h : Byt l) (n : Nat) : Byt (l.drop n) := fun c hc => h c (List.mem_of_mem_drop hc)
set_option maxRecDepth 100000 in
theorem take_add_drop (b : List Int) (p m k : Nat) : (b.drop p).take (m + k) = (b.drop p).take m ++ (b.drop (p + m)).take k := by
  rw [List.take_add, List.drop_drop]
set_option maxRecDepth 100000 in
theorem rdF_back {b : List Int} (hb : Byt b) : ∀ (n p : Nat) (l : List Ev) (q : Nat), rdF b n p = (l, q, 0) → p ≤ b.length → l.length = n ∧ p ≤ q ∧ q ≤ b.length ∧ evsL l = (b.drop p).take (q - p) ∧ ∀ x ∈ l, V64 x.v
  | 0, p, l, q, h, hp => by
    unfold rdF at h
    cases h
    exact ⟨rfl, Nat.le_refl _, hp, by rw [Nat.sub_self, List.take_zero]; rfl, fun x hx => by cases hx⟩
  | n + 1, p, l, q, h, hp => by
    unfold rdF at h
    rcases hr : rdE (b.drop p) with ⟨x, m, e⟩
    rw [hr] at h
    simp only at h
    by_cases he : e ≠ 0
    · rw [if_pos he] at h
      exact absurd (congrArg (fun z : List Ev × Nat × Int => z.2.2) h) he
    rw [if_neg he] at h
    have he0 : e = 0 := Classical.byContradiction he
    subst he0
    obtain ⟨h1, h2, h3, h4⟩ := rdE_back (hb.drop p) hr
    rw [List.length_drop] at h3
    rcases hf : rdF b n (p + m) with ⟨l2, q2, e2⟩
    rw [hf] at h
    simp only at h
    by_cases he2 : e2 ≠ 0
    · rw [if_pos he2] at h
      exact absurd (congrArg (fun z : List Ev × Nat × Int => z.2.2) h) he2
    rw [if_neg he2] at h
    have he0 : e2 = 0 := Classical.byContradiction he2
    subst he0
    cases h
    obtain ⟨i1, i2, i3, i4, i5⟩ := rdF_back hb n (p + m) l2 q hf (by omega)
    refine ⟨by rw [List.length_cons, i1], by omega, i3, ?_, fun y hy => ?_⟩
    · show evL x ++ evsL l2 = _
      rw [h1, i4, show q - p = m + (q - (p + m)) by omega, take_add_drop]
    · rcases List.mem_cons.1 hy with e | hy
      · rw [e]; exact h4
      · exact i5 y hy
set_option maxRecDepth 100000 in
/-- what is read is a history; written again, it is the bytes -/
theorem rdH_back {b : List Int} {l : List Ev} (hb : Byt b) (h : rdH b = (l, 0)) : His l ∧ (∀ x ∈ l, V64 x.v) ∧ txtL l = b := by
  unfold rdH at h
  rcases hr : rd b 0 0 with ⟨u, n, e⟩
  rw [hr] at h
  simp only at h
  by_cases he : e ≠ 0
  · rw [if_pos he] at h
    exact absurd (congrArg Prod.snd h) he
  rw [if_neg he] at h
  have he0 : e = 0 := Classical.byContradiction he
  subst he0
  obtain ⟨k, k1, k2, k3, k4, k5⟩ := rd_back hb hr
  subst k3
  by_cases h5 : 128 < u
  · rw [if_pos h5] at h; cases h
  rw [if_neg h5, Int.toNat_natCast] at h
  rcases hf : rdF b u.toNat k with ⟨l2, q, e2⟩
  rw [hf] at h
  simp only at h
  by_cases he2 : e2 ≠ 0
  · rw [if_pos he2] at h; exact absurd (congrArg Prod.snd h) he2
  rw [if_neg he2] at h
  have he0 : e2 = 0 := Classical.byContradiction he2
  subst he0
  obtain ⟨i1, i2, i3, i4, i5⟩ := rdF_back hb _ _ _ _ hf k2
  by_cases h6 : q < b.length
  · rw [if_pos h6] at h; cases h
  rw [if_neg h6] at h
  by_cases hc : (chk l2).2 ≠ 0
  · rw [if_pos hc] at h; exact absurd (congrArg Prod.snd h) hc
  rw [if_neg hc] at h
  obtain ⟨rfl, _⟩ := Prod.mk.inj h
  refine ⟨Classical.byContradiction hc, i5, ?_⟩
  unfold txtL
  rw [i1, i4, show ((u.toNat : Nat) : Int) = u by omega, k5, List.take_of_length_le (l := b.drop k) (by rw [List.length_drop]; omega), List.take_append_drop]
set_option maxRecDepth 100000 in
theorem rdH_err {b : List Int} (h : (rdH b).2 ≠ 0) : (rdH b).1 = [] := by
  unfold rdH at h ⊢
  split
  · rfl
  · rename_i h1
    rw [if_neg h1] at h
    split
    · rfl
    · rename_i h2
      rw [if_neg h2] at h
      split
      · rfl
      · rename_i h3
        rw [if_neg h3] at h
        split
        · rfl
        · rename_i h4
          rw [if_neg h4] at h
          split
          · rfl
          · rename_i h5
            rw [if_neg h5] at h
            exact absurd rfl h
end Go.Proofs.Ytcghebgdieilgaa
